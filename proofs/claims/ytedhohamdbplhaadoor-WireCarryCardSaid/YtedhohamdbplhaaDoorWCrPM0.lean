import Derived.Test.YtedhohamdbplhaaDoorBSetR
import Derived.Test.YtedhohamdbplhaaDoorBSetR2
import Derived.Test.YtedhohamdbplhaaDoorBSetR3
import Derived.Test.YtedhohamdbplhaaDoorRows
import Derived.Shelf.Small.Bits
import Derived.Ground.NamesProg
import Derived.Test.YtedhohamdbplhaaDoorBCdB
import Derived.Deep.DeepAppendWide
import Derived.StillTailTactics
import Derived.Test.YtedhohamdbplhaaDoorBRep
import Derived.Test.YtedhohamdbplhaaDoorBFrom2
import Derived.Test.YtedhohamdbplhaaDoorWMay
import Derived.Laws.BitsAllLaws
import Derived.Test.YtedhohamdbplhaaDoorWApp
import Derived.Lib.SliceRun
import Derived.Test.YtedhohamdbplhaaDoorWPut
import Derived.Deep.MidRow
import Derived.Test.YtedhohamdbplhaaDoorWEnc
import Derived.Stop.BytesEq
import Derived.Laws.Cover3
import Derived.ChangeKeysEq
import Derived.Laws.CopyOwn
namespace Go.Proofs.YtedhohamdbplhaaDoor.B
open Go.RowKit Go.Shelf
attribute [local go_sem] Oper.semAt_some
set_option linter.unusedVariables false
set_option linter.unusedSimpArgs false
set_option maxRecDepth 20000

end Go.Proofs.YtedhohamdbplhaaDoor.B
namespace Go.Proofs.YtedhohamdbplhaaDoor.B
open Go.RowKit Go.Shelf
attribute [local go_sem] Oper.semAt_some
set_option linter.unusedVariables false
set_option linter.unusedSimpArgs false
set_option maxRecDepth 20000

theorem Chg.lift {U : Nat → Prop} {w w' : World} (h : Below w.heap.size w w') : Chg U w w' := Chg.ofBelow h
theorem rgErr_one {n : Nat} {i : Int} : rgErr n i 1 = if 0 ≤ i ∧ i < n then 0 else 2 := by
  unfold rgErr
  rw [if_neg (by omega)]
  by_cases h : 0 ≤ i ∧ i < n
  · rw [if_neg (by omega), if_pos h]
  · rw [if_pos (by omega), if_neg h]
theorem cnt_one (f : Nat → Bool) : cnt f 1 = (f 0).toNat := by simp [cnt]

theorem SetRange_no {w : World} {L : BL} {n B : Nat} (h : BRep w L n B) (a c : Int) (he : rgErr n a c ≠ 0) :
    Calls Tryd.prog 66 #[PB L, .int .i64 a, .int .i64 c] w fun e w' => e = .returned (.tuple #[.int .i64 0, .int .i64 ((rgErr n a c : Nat) : Int)]) ∧ Below w.heap.size w w' := by
  refine (callsIn_wide (n := 5)).1 ?_
  have hck := checkRange_any (h.below ((Below.refl _ _).alloc (Nat.le_refl _) (.cells #[PB L] 112))) a c
  have HCK := hide hck
  have hne : (((rgErr n a c : Nat) : Int) != 0) = true := by simpa using he
  clear hck he h
  generalize rgErr n a c = r at *
  unfold PB at *
  refine callsIn_of_wp_marks Tryd.func66 rfl trivial ?_ rfl
  simp only [Tryd.ntmps66, List.size_toArray, List.length_cons, List.length_nil, Nat.reduceAdd, Nat.reduceSub, Array.replicate_succ, Array.replicate_zero, List.push_toArray, List.append_toArray, List.nil_append, List.cons_append]
  gi_wp2_with ((refine ⟨trivial, ?_⟩; gi_at_call 75; refine (callsIn_wide.2 HCK.out).mono ?_; rintro e w' ⟨rfl, rfl⟩))
  refine ⟨_, results_tmp2 rfl _ _ _, rfl, ?_⟩
  exact (Below.refl _ _).alloc (Nat.le_refl _) _

end Go.Proofs.YtedhohamdbplhaaDoor.B
namespace Go.Proofs.YtedhohamdbplhaaDoor.B
open Go.RowKit Go.Shelf
set_option linter.unusedVariables false
set_option linter.unusedSimpArgs false
set_option maxRecDepth 20000

theorem eqNil_some (W : World) (a : Addr) (n c : Nat) : (binOp .eql 55 (.slice (some a) n c) (.slice none 0 0)).run Tryd.prog W = .ok (.bool false) W := Lib.run_eql_slice_nil (P := Tryd.prog) W 55 30 (some a) n c 0 0 Tryd.underlying55
theorem eqNil_nil (W : World) : (binOp .eql 55 (.slice none 0 0) (.slice none 0 0)).run Tryd.prog W = .ok (.bool true) W := Lib.run_eql_slice_nil (P := Tryd.prog) W 55 30 none 0 0 0 0 Tryd.underlying55
theorem u64V_oneCell (l : List Nat) : ∀ u ∈ l.map u64V, u.oneCell' = true := by
  intro u hu
  obtain ⟨_, _, rfl⟩ := List.mem_map.1 hu
  rfl
theorem map_u64V_getD {l : List Nat} {i : Nat} (hi : i < l.length) : (l.map u64V)[i]? = some (.int .u64 (l.getD i 0 : Nat)) := by
  simp [List.getD, hi, u64V]
theorem WSl.news {w : World} {ad : Addr} {n cap : Nat} {l : List Nat} (h : WSl w (.slice (some ad) n cap) l) : ∀ j u, (l.map u64V)[j]? = some u → w.cell? (ad.add j) = some u := by
  intro j u hu
  have hj : j < l.length := by simpa using (List.getElem?_eq_some_iff.1 hu).1
  obtain ⟨a, cap, e, h1, h2, h3, h4, h5⟩ := h
  simp only [Value.slice.injEq] at e
  obtain ⟨rfl, rfl, rfl⟩ := e
  obtain ⟨b, off, e, hc⟩ := h5 (by omega)
  simp only [Option.some.injEq] at e
  subst e
  rw [Addr.add_lit, hc j hj]
  rw [map_u64V_getD hj] at hu
  exact hu
theorem wsl_of_row {w : World} {base : Nat} {v : Value} {l : List Nat} (h : w.ownsRow base 30 1 v l.length (l.map u64V)) (hl : ∀ b ∈ l, b < 18446744073709551616) : WSl w v l := by
  have h' := h
  rcases h.2 with ⟨rfl, h0⟩ | ⟨g, cap, cur, rfl, h1, h2, h3, h4, h5, h6⟩
  · have e0 : l.length = 0 := h0
    refine ⟨none, 0, by rw [e0], by omega, by unfold maxLen; omega, fun _ => rfl, hl, fun hp => by omega⟩
  · refine ⟨some ⟨g, 0, none⟩, cap, rfl, h3, h4, by simp, hl, fun _ => ⟨g, 0, rfl, fun i hi => ?_⟩⟩
    rw [Nat.zero_add, h'.cellAt i (by omega), map_u64V_getD hi]

set_option maxHeartbeats 400000 in
theorem Clone_any {w : World} {v : Value} {l : List Nat} (h : WSl w v l) (h0 : 0 < l.length) (hn : l.length ≤ 1000000) :
    Calls Tryd.prog 67 #[v] w fun e w' => ∃ v', e = .returned v' ∧ w'.ownsRow w.heap.size 30 1 v' l.length (l.map u64V) ∧ WSl w' v' l ∧ Below w.heap.size w w' := by
  have H := hide h
  obtain ⟨a, cap, rfl, hl, hm, hnn, hb, hcell⟩ := h
  obtain ⟨g, off, rfl, hc⟩ := hcell h0
  have hq := eqNil_some
  have ROW : Hid ((w.alloc (.cells #[] 30)).ownsRow w.heap.size 30 1 (.slice (some ⟨w.heap.size, 0, none⟩) 0 0) 0 []) := hide
    ⟨rfl, .inr ⟨w.heap.size, 0, #[], rfl, Nat.le_refl _, Go.heap_alloc_new w _, Nat.le_refl _, by unfold maxLen; omega, rfl, rfl⟩⟩
  have NEWS := hide (H.out.below ((Below.refl _ _).alloc (Nat.le_refl _) (.cells #[] 30))).news
  obtain ⟨i0, hi, hz0, hz1, hz2⟩ := info_parts info_u64
  clear hc hcell hnn
  have HB := hide hb
  clear hb
  go_enter Tryd.func67, Tryd.ntmps67
  go_wp2_with (at_builtin; refine wpList_append_own _ rfl (.tmp 5) (.tmp 6) 55 rfl w.heap.size 30 i0 (.int .u64 0) 1 8 Tryd.underlying55 hi hz0 hz1 hz2 rfl (by decide) _ _ _ rfl ROW.out ⟨g, off, none⟩ l.length cap (l.map u64V) rfl (by simp) NEWS.out (u64V_oneCell l) (by unfold maxLen; omega) (by omega) (by simp) ?_; intro v' w1 hown hgrow hnil; have HOWN := hide hown; have HG := hide hgrow; clear hown hgrow hnil)
  go_ret
  have hown := HOWN.out
  rw [Nat.zero_add, List.nil_append] at hown
  refine ⟨_, rfl, hown, wsl_of_row hown HB.out, ?_⟩
  exact ((Below.refl _ _).alloc (Nat.le_refl _) _).grown HG.out (by simp) (fun k e => by have e' : some w.heap.size = some k := e; cases e'; exact Nat.le_refl _)

theorem BRep.wsl {w : World} {L : BL} {n B : Nat} (h : BRep w L n B) : WSl w (.slice (some ⟨L.lo, 0, none⟩) (nW n) (nW n)) (wds B (nW n)) := by
  refine ⟨some ⟨L.lo, 0, none⟩, nW n, by rw [wds_len], by rw [wds_len]; exact Nat.le_refl _, by have := h.n2; unfold nW maxLen; omega, by simp, wds_lt _ _, fun _ => ⟨L.lo, 0, rfl, fun i hi => ?_⟩⟩
  rw [wds_len] at hi
  rw [Nat.zero_add, h.cl hi, wds_get hi]
theorem BRep.wsh {w : World} {L : BL} {n B : Nat} (h : BRep w L n B) : WSl w (.slice (some ⟨L.hi, 0, none⟩) (nW (nW n)) (nW (nW n))) (wds (up B (nW n)) (nW (nW n))) := by
  refine ⟨some ⟨L.hi, 0, none⟩, nW (nW n), by rw [wds_len], by rw [wds_len]; exact Nat.le_refl _, by have := h.n2; unfold nW maxLen; omega, by simp, wds_lt _ _, fun _ => ⟨L.hi, 0, rfl, fun i hi => ?_⟩⟩
  rw [wds_len] at hi
  rw [Nat.zero_add, h.ch hi, wds_get hi]

theorem Words_any {w : World} {L : BL} {n B : Nat} (h : BRep w L n B) :
    Calls Tryd.prog 55 #[PB L] w fun e w' => ∃ v', e = .returned v' ∧ w'.ownsRow w.heap.size 30 1 v' (nW n) ((wds B (nW n)).map u64V) ∧ WSl w' v' (wds B (nW n)) ∧ Below w.heap.size w w' := by
  have c1 := h.c1
  have hn1 := h.n1
  have hn2 := h.n2
  have hc := Clone_any h.wsl (by rw [wds_len]; unfold nW; omega) (by rw [wds_len]; unfold nW; omega)
  rw [wds_len] at hc
  have HC := hide hc
  have hW : nW n ≤ 1024 := by unfold nW; omega
  clear hc h
  generalize wds B (nW n) = l at *
  generalize nW n = m1 at *
  unfold PB
  go_enter Tryd.func55, Tryd.ntmps55
  go_wp2_with (go_at_call 67; refine HC.out.mono ?_; rintro e w' ⟨v', rfl, hr, hv, hb⟩; have HR := hide hr; have HV := hide hv; have HB := hide hb; clear hr hv hb)
  go_ret
  exact ⟨_, rfl, HR.out, HV.out, HB.out⟩
end Go.Proofs.YtedhohamdbplhaaDoor.B
namespace Go.Proofs
open Go.Shelf
def Tryd.lenA_ren : Go.Shelf.Ren := ⟨fun | 125 => 61 | 128 => 73 | 129 => 74 | n => n, fun | 46 => 56 | 3 => 3 | 51 => 29 | 53 => 30 | 4 => 4 | 5 => 5 | 9 => 9 | n => n, fun | n => n⟩
theorem Tryd.lenA : Go.Proofs.Lays.n125 Tryd.prog Tryd.lenA_ren := {
  mixed := by kernel_rfl
  f125 := Tryd.func61.trans (congrArg some (by kernel_rfl))
  f128 := Tryd.func73.trans (congrArg some (by kernel_rfl))
  f129 := Tryd.func74.trans (congrArg some (by kernel_rfl))
  t3 := Tryd.underlying3
  a3 := Tryd.isAgg3
  z3 := Tryd.sizeOf3
  v3 := Tryd.zeroValue3
  t4 := Tryd.underlying4
  a4 := Tryd.isAgg4
  z4 := Tryd.sizeOf4
  v4 := Tryd.zeroValue4
  t5 := Tryd.underlying5
  a5 := Tryd.isAgg5
  z5 := Tryd.sizeOf5
  v5 := Tryd.zeroValue5
  t9 := Tryd.underlying9
  a9 := Tryd.isAgg9
  z9 := Tryd.sizeOf9
  v9 := Tryd.zeroValue9
  t46 := Tryd.underlying56
  a46 := Tryd.isAgg56
  z46 := Tryd.sizeOf56
  v46 := Tryd.zeroValue56
  t51 := Tryd.underlying29
  a51 := Tryd.isAgg29
  z51 := Tryd.sizeOf29
  v51 := Tryd.zeroValue29
  t53 := Tryd.underlying30
  a53 := Tryd.isAgg30
  z53 := Tryd.sizeOf30
  v53 := Tryd.zeroValue30 }
end Go.Proofs
namespace Go.Proofs.YtedhohamdbplhaaDoor.B
open Go.RowKit
set_option linter.unusedVariables false
set_option linter.unusedSimpArgs false
set_option maxRecDepth 20000

theorem bitLenAux_log : ∀ (f x : Nat), x < 2 ^ f → x ≠ 0 → Lib.bitLenAux f x = x.log2 + 1
  | 0, x, h, h0 => by simp at h; omega
  | f + 1, x, h, h0 => by
    unfold Lib.bitLenAux
    rw [if_neg h0]
    by_cases h1 : x / 2 = 0
    · have : x = 1 := by omega
      subst this
      cases f with
      | zero => rfl
      | succ f => simp [Lib.bitLenAux, Nat.log2_def]
    · rw [bitLenAux_log f (x / 2) (by rw [Nat.pow_succ] at h; omega) h1]
      rw [Nat.log2_def x, if_pos (by omega)]
      omega
theorem bitLen_log (x : Nat) (h0 : x ≠ 0) (h : x < 2 ^ 64) : Lib.bitLen x = x.log2 + 1 := bitLenAux_log 64 x h h0
theorem len_any (w : World) (x : Nat) (h1 : 1 ≤ x) (h2 : x ≤ 65536) : Calls Tryd.prog 61 #[.int .u64 (x : Int)] w fun e w' => e = .returned (.int .i64 ((x.log2 + 1 : Nat) : Int)) ∧ w' = w := by
  have h := Go.Proofs.Any.bits_Len Tryd.lenA (x : Int) w (by omega) (by omega)
  rw [Int.toNat_natCast] at h
  have e : Lib.bitLen x = x.log2 + 1 := bitLen_log x (by omega) (by omega)
  rw [e] at h
  exact h
theorem rowK8 {w w' : World} {base c : Nat} {e : TypeId} {v : Value} {n : Nat} {xs : List Value} (h : w.ownsRow base e c v n xs) (hk : ∀ g, v.ownBlock = some g → w'.heap[g]? = w.heap[g]?) : w'.ownsRow base e c v n xs := by
  refine ⟨h.1, ?_⟩
  rcases h.2 with h0 | ⟨g, cap, cur, rfl, h1, hg, r⟩
  · exact .inl h0
  · exact .inr ⟨g, cap, cur, rfl, h1, by rw [hk g rfl]; exact hg, r⟩
def byV (x : Nat) : Value := .int .u8 (x : Int)
/-- a writer of digits: its box and its bytes; since w0 nothing else has turned -/
structure WS (w0 w : World) (p : Nat) (cv : Value) (c : List Nat) (D : List Bool) : Prop where
  row : w.heap[p]? = some (.cells #[cv, .int .i64 (D.length : Int)] 117 (0, 0))
  own : w.ownsRow 0 5 1 cv c.length (c.map byV)
  wrt : Wrt c D
  chg : Chg (fun b => b = p) w0 w
  loc : ∀ b, cv.ownBlock = some b → w0.heap.size ≤ b
  pN : p < w0.heap.size
/-- only the box, blocks of bytes and new ones have turned -/
structure TF (p : Nat) (w w' : World) : Prop where
  os : w'.os = w.os
  tape : w'.tape = w.tape
  output : w'.output = w.output
  size : w.heap.size ≤ w'.heap.size
  keep : ∀ b o, w.heap[b]? = some o → b ≠ p → (∀ cs fr, o ≠ .cells cs 5 fr) → w'.heap[b]? = some o
theorem TF.refl (p : Nat) (w : World) : TF p w w := ⟨rfl, rfl, rfl, Nat.le_refl _, fun _ _ h _ _ => h⟩
theorem TF.trans {p : Nat} {a b c : World} (h : TF p a b) (k : TF p b c) : TF p a c := ⟨k.os.trans h.os, k.tape.trans h.tape, k.output.trans h.output, Nat.le_trans h.size k.size, fun x o h1 h2 h3 => k.keep x o (h.keep x o h1 h2 h3) h2 h3⟩
theorem wp_still_tail {P : Program} {id : Nat} {Q : Exit → Act → World → Prop} {a : Act} {w : World} {l : List Oper} (n : Nat) (hm : P.follows .mixedOrders = true) (hB : Region.lexTailB .any l.toArray n = true)
    (h : wpStill P l.toArray w.drew (fun a' => wpList P l.toArray Q (l.drop n) a' w.drew) (l.take n) a) : (Code.region id l.toArray true).wp P Q a w :=
  wp_region_still_tail n hm hB h
theorem own_set {w : World} {g cap K y : Nat} {c : List Nat} (h : w.ownsRow 0 5 1 (.slice (some ⟨g, 0, none⟩) c.length cap) c.length (c.map byV)) (hK : K < c.length) : (w.setCell ⟨g, K, none⟩ (byV y)).ownsRow 0 5 1 (.slice (some ⟨g, 0, none⟩) (c.set K y).length cap) (c.set K y).length ((c.set K y).map byV) := by
  rcases h.2 with ⟨hv, hz⟩ | ⟨g', cap', cur, e, hg0, hgc, hnc, hcm, hcs, htk⟩
  · omega
  · simp only [Value.slice.injEq, Option.some.injEq, Addr.mk.injEq] at e
    obtain ⟨⟨rfl, -, -⟩, -, rfl⟩ := e
    refine ⟨by simp, .inr ⟨g, cap, cur.setIfInBounds K (byV y), rfl, hg0, Go.heap_setCell_same _ _ K _ 5 _ hgc, by simpa using hnc, hcm, by simpa using hcs, ?_⟩⟩
    rw [Nat.mul_one] at htk ⊢
    rw [List.length_set, Array.toList_setIfInBounds, List.take_set, htk, List.map_set]
/-- a writer with room for a digit -/
structure WQ (w0 w : World) (p g cap : Nat) (c : List Nat) (D : List Bool) (m : Nat) : Prop where
  row : w.heap[p]? = some (.cells #[.slice (some ⟨g, 0, none⟩) c.length cap, .int .i64 (D.length : Int)] 117 (0, 0))
  own : w.ownsRow 0 5 1 (.slice (some ⟨g, 0, none⟩) c.length cap) c.length (c.map byV)
  byt : ∀ x ∈ c, x < 256
  dg : digs c = D ++ List.replicate (m + 1) false
  m8 : m < 8
  chg : Chg (fun b => b = p) w0 w
  loc : w0.heap.size ≤ g
  pN : p < w0.heap.size
theorem WQ.blk {w0 w : World} {p g cap m : Nat} {c : List Nat} {D : List Bool} (h : WQ w0 w p g cap c D m) : ∃ cs, w.heap[g]? = some (.cells cs 5 (0, 0)) := by
  rcases h.own.2 with ⟨hv, hz⟩ | ⟨g', cap', cur, e, hg0, hgc, -⟩
  · simp at hv
  · simp only [Value.slice.injEq, Option.some.injEq, Addr.mk.injEq] at e
    obtain ⟨⟨rfl, -, -⟩, -, rfl⟩ := e
    exact ⟨cur, hgc⟩
theorem WQ.cell {w0 w : World} {p g cap m : Nat} {c : List Nat} {D : List Bool} (h : WQ w0 w p g cap c D m) {k : Nat} (hk : k < c.length) : w.cell? ⟨g, k, none⟩ = some (.int .u8 (c.getD k 0 : Nat)) := by
  have := h.own.cells (g := g) rfl k (byV (c.getD k 0)) (by simp [List.getD, hk])
  rw [Addr.add_lit] at this
  simpa [byV] using this
theorem WQ.put {w0 w : World} {p g cap m : Nat} {c : List Nat} {D : List Bool} (h : WQ w0 w p g cap c D m) (d : Bool) (x : Int) (hx : x = (D.length : Int) + 1) :
    WS w0 ((w.drew.setCell ⟨g, D.length / 8, none⟩ (.int .u8 (orD (c.getD (D.length / 8) 0) (D.length % 8) d : Nat))).setCell ⟨p, 1, none⟩ (.int .i64 x)) p (.slice (some ⟨g, 0, none⟩) c.length cap) (c.set (D.length / 8) (orD (c.getD (D.length / 8) 0) (D.length % 8) d)) (D ++ [d]) ∧
    TF p w ((w.drew.setCell ⟨g, D.length / 8, none⟩ (.int .u8 (orD (c.getD (D.length / 8) 0) (D.length % 8) d : Nat))).setCell ⟨p, 1, none⟩ (.int .i64 x)) := by
  subst hx
  obtain ⟨p1, p2, p3⟩ := wrt_put h.byt h.dg h.m8 d
  obtain ⟨cs, hcs⟩ := h.blk
  have hgp : g ≠ p := fun e => by have := h.row; rw [← e, hcs] at this; simp at this
  have hs : ∀ (W : World) (a : Addr) (v : Value), (W.setCell a v).heap.size = W.heap.size := fun W a v => by simp [World.setCell]
  have hot : ∀ b, b ≠ p → b ≠ g → ((w.drew.setCell ⟨g, D.length / 8, none⟩ (.int .u8 (orD (c.getD (D.length / 8) 0) (D.length % 8) d : Nat))).setCell ⟨p, 1, none⟩ (.int .i64 ((D.length : Int) + 1))).heap[b]? = w.heap[b]? := fun b h1 h2 => by
    rw [Go.heap_setCell_other _ _ _ _ h1, Go.heap_setCell_other _ _ _ _ h2]
    rfl
  have hrow1 : (w.drew.setCell ⟨g, D.length / 8, none⟩ (.int .u8 (orD (c.getD (D.length / 8) 0) (D.length % 8) d : Nat))).heap[p]? = some (.cells #[.slice (some ⟨g, 0, none⟩) c.length cap, .int .i64 (D.length : Int)] 117 (0, 0)) := by
    rw [Go.heap_setCell_other _ _ _ _ (Ne.symm hgp)]
    exact h.row
  have how := own_set (y := orD (c.getD (D.length / 8) 0) (D.length % 8) d) h.own p1
  refine ⟨⟨?_, ?_, p3, ⟨h.chg.os, h.chg.tape, h.chg.output, by rw [hs, hs]; exact h.chg.size, fun b hb hne => ?_⟩, fun b e => ?_, h.pN⟩, ⟨rfl, rfl, rfl, by rw [hs, hs]; exact Nat.le_refl _, fun b o h1 h2 h3 => ?_⟩⟩
  · rw [Go.heap_setCell_same _ _ 1 _ 117 _ hrow1]
    simp
  · rw [List.length_set] at how
    rw [List.length_set]
    refine rowK8 (w := w.drew.setCell ⟨g, D.length / 8, none⟩ (byV (orD (c.getD (D.length / 8) 0) (D.length % 8) d))) how fun b e => ?_
    simp only [Value.ownBlock, Option.some.injEq] at e
    subst e
    exact Go.heap_setCell_other _ _ _ _ hgp
  · rw [hot b hne (by have := h.loc; omega)]
    exact h.chg.keep b hb hne
  · simp only [Value.ownBlock, Option.some.injEq] at e
    subst e
    exact h.loc
  · rw [hot b h2 (fun e => by subst e; rw [hcs] at h1; exact h3 cs (0, 0) (Option.some.inj h1).symm)]
    exact h1
end Go.Proofs.YtedhohamdbplhaaDoor.B
namespace Go.Proofs.YtedhohamdbplhaaDoor.B
open Go.RowKit
set_option linter.unusedVariables false
set_option linter.unusedSimpArgs false
set_option maxRecDepth 20000

set_option maxHeartbeats 2000000 in
theorem wdigit_room {w0 w : World} {p g cap m : Nat} {c : List Nat} {D : List Bool} (h : WQ w0 w p g cap c D m) (d : Bool) (hD : D.length ≤ 10000000) (h8 : ¬ D.length % 8 = 0) :
    Calls Tryd.prog 48 #[.pointer (some ⟨p, 0, none⟩), .int .u64 ((d.toNat : Nat) : Int)] w fun e w' => e = .returned (.tuple #[]) ∧ ∃ cv' c', WS w0 w' p cv' c' (D ++ [d]) ∧ TF p w w' := by
    obtain ⟨hK0, -, -⟩ := wrt_put h.byt h.dg h.m8 d
    have HPUT := hide (h.put d ((D.length : Int) + 1) rfl)
    have c0 : w.cell? ⟨p, 0, none⟩ = some (.slice (some ⟨g, 0, none⟩) c.length cap) := cell_of_row _ _ _ _ _ _ h.row
    have c1 : w.cell? ⟨p, 1, none⟩ = some (.int .i64 (D.length : Int)) := cell_of_row _ _ _ _ _ _ h.row
    have f1 : w.frozen? ⟨p, 1, none⟩ = false := frozen_of_row _ _ _ _ _ h.row
    have c2 := h.cell hK0
    have hx : c.getD (D.length / 8) 0 < 256 := by
      have : c.getD (D.length / 8) 0 = c[D.length / 8] := by simp [List.getD, hK0]
      rw [this]
      exact h.byt _ (List.getElem_mem hK0)
    obtain ⟨cs, hcs⟩ := h.blk
    have f2 : w.frozen? ⟨g, D.length / 8, none⟩ = false := frozen_of_row _ _ _ _ _ hcs
    have hgp : g ≠ p := fun e => by have := h.row; rw [← e, hcs] at this; simp at this
    have hcap : c.length ≤ cap ∧ cap ≤ 9223372036854775807 := by
      rcases h.own.2 with ⟨hv, hz⟩ | ⟨g', cap', cur, e, hg0, hgc, hnc, hcm, -⟩
      · simp at hv
      · simp only [Value.slice.injEq] at e
        unfold maxLen at hcm
        omega
    have h8i : ((D.length : Int) % 8 == 0) = false := by simp; omega
    have hM := hD
    obtain ⟨K, hK⟩ : ∃ K, D.length / 8 = K := ⟨_, rfl⟩
    obtain ⟨J, hJ⟩ : ∃ J, D.length % 8 = J := ⟨_, rfl⟩
    obtain ⟨S, hS⟩ : ∃ S, 7 - J = S := ⟨_, rfl⟩
    have hJ8 : J < 8 := by omega
    have hd1 : (D.length : Int) / 8 = (K : Int) := by omega
    have hd2 : (D.length : Int).tdiv 8 = (K : Int) := by rw [Int.tdiv_eq_ediv_of_nonneg (by omega)]; exact hd1
    have hd3 : IntKind.i64.wrap (K : Int) = (K : Int) := by simp [IntKind.wrap, IntKind.bits, IntKind.signed]; omega
    have hd4 : IntKind.i64.wrap ((D.length : Int) / 8) = (K : Int) := by rw [hd1]; exact hd3
    have hrm : (D.length : Int) % 8 = (J : Int) := by omega
    have hrm1 : (D.length : Int).tmod 8 = (J : Int) := by rw [Int.tmod_eq_emod_of_nonneg (by omega)]; exact hrm
    have hrm2 : IntKind.i64.wrap (J : Int) = (J : Int) := by simp [IntKind.wrap, IntKind.bits, IntKind.signed]; omega
    have hrm3 : IntKind.i64.wrap ((D.length : Int) % 8) = (J : Int) := by rw [hrm]; exact hrm2
    have hsb : (7 : Int) - (J : Int) = (S : Int) := by omega
    have hsb1 : IntKind.i64.wrap (S : Int) = (S : Int) := by simp [IntKind.wrap, IntKind.bits, IntKind.signed]; omega
    have hsb2 : IntKind.i64.wrap ((7 : Int) - (J : Int)) = (S : Int) := by rw [hsb]; exact hsb1
    have hdv : IntKind.u8.wrap ((d.toNat : Nat) : Int) = ((d.toNat : Nat) : Int) := by cases d <;> rfl
    have hpw : d.toNat * 2 ^ S < 256 := by
      have h1 : d.toNat ≤ 1 := by cases d <;> simp
      have h2 : 2 ^ S ≤ 2 ^ 7 := Nat.pow_le_pow_right (by decide) (by omega)
      have h3 : d.toNat * 2 ^ S ≤ 1 * 2 ^ S := Nat.mul_le_mul_right _ h1
      omega
    have hsh : Op.shift .shl .u8 ((d.toNat : Nat) : Int) .i64 (S : Int) = (pure (.int .u8 ((d.toNat * 2 ^ S : Nat) : Int)) : Sem Value) := by
      rw [shift_shl .u8 .i64 ((d.toNat : Nat) : Int) (S : Int) (by omega) (by simp [IntKind.bits]; omega), Int.toNat_natCast]
      congr 2
      have e : ((d.toNat : Nat) : Int) * 2 ^ S = ((d.toNat * 2 ^ S : Nat) : Int) := by simp
      rw [e, IntKind.wrap_u8']
      omega
    have hkc : (0 : Int) ≤ (K : Int) := by omega
    rw [hK] at c2 hx f2 HPUT hK0
    rw [hJ] at HPUT
    have hkl : (K : Int) < (c.length : Int) := by omega
    have hor : bits .or .u8 ((c.getD K 0 : Nat) : Int) ((d.toNat * 2 ^ S : Nat) : Int) = ((orD (c.getD K 0) J d : Nat) : Int) := by
      rw [u8_or_nat _ _ hx hpw]
      unfold orD
      rw [hS]
    have c1x : ∀ v, (w.drew.setCell ⟨g, K, none⟩ v).cell? ⟨p, 1, none⟩ = some (.int .i64 (D.length : Int)) := fun v => by
      rw [World.cell?_of_block (Go.heap_setCell_other _ _ _ _ (by show p ≠ g; exact Ne.symm hgp))]
      exact c1
    have f1x : ∀ v, (w.drew.setCell ⟨g, K, none⟩ v).frozen? ⟨p, 1, none⟩ = false := fun v => by
      rw [World.frozen?_of_block (Go.heap_setCell_other _ _ _ _ (by show p ≠ g; exact Ne.symm hgp))]
      exact f1
    have hor2 : bits .or .u8 ((c.getD K 0 : Nat) : Int) (((d.toNat : Nat) : Int) * 2 ^ S % 256) = ((orD (c.getD K 0) J d : Nat) : Int) := by
      have e : ((d.toNat : Nat) : Int) * 2 ^ S = ((d.toNat * 2 ^ S : Nat) : Int) := by simp
      have e2 : ((d.toNat * 2 ^ S : Nat) : Int) % 256 = ((d.toNat * 2 ^ S : Nat) : Int) := by omega
      rw [e, e2]
      exact hor
    generalize c.getD K 0 = x at *
    generalize orD x J d = y at *
    generalize d.toNat * 2 ^ S = z at *
    clear h hcs
    have HDD := hide hK
    clear hK hJ hS
    generalize hdl : D.length = M at *
    clear hdl
    go_enter Tryd.func48, Tryd.ntmps48
    go_wp2_with fail
    refine wp_still_tail 21 (by kernel_rfl) (by kernel_rfl) ?_
    simp only [List.take_succ_cons, List.take_zero, List.drop_succ_cons, List.drop_zero]
    repeat still_step
    refine wpStill_nil ?_
    have c1y := c1x (.int .u8 (y : Int))
    have f1y := f1x (.int .u8 (y : Int))
    clear c1x f1x
    go_wp2_with fail
    go_end0
    exact ⟨rfl, _, _, HPUT.out⟩
/-- what an append leaves -/
def Upn (w w' : World) (v v' : Value) : Prop := (v'.ownBlock = some w.heap.size ∧ w.grownBy w' none) ∨ (∃ g, v.ownBlock = some g ∧ v'.ownBlock = some g ∧ w.grownBy w' (some g))
theorem Upn.block {w w' : World} {v v' : Value} (h : Upn w w' v v') : ∀ b, b < w.heap.size → v.ownBlock ≠ some b → w'.heap[b]? = w.heap[b]? := fun b hb hne => by
  rcases h with ⟨_, h⟩ | ⟨g, h1, _, h⟩
  · exact h.block b hb (by simp)
  · exact h.block b hb (by rw [← h1]; exact Ne.symm hne)
theorem Upn.size {w w' : World} {v v' : Value} (h : Upn w w' v v') : w.heap.size ≤ w'.heap.size := by rcases h with ⟨_, h⟩ | ⟨g, _, _, h⟩ <;> exact h.size
theorem Upn.same {w w' : World} {v v' : Value} (h : Upn w w' v v') : w'.os = w.os ∧ w'.tape = w.tape ∧ w'.output = w.output := by rcases h with ⟨_, h⟩ | ⟨g, _, _, h⟩ <;> exact ⟨h.os, h.tape, h.output⟩
theorem Upn.loc {w w' : World} {v v' : Value} (h : Upn w w' v v') : ∀ b, v'.ownBlock = some b → v.ownBlock = some b ∨ b = w.heap.size := fun b hb => by
  rcases h with ⟨e, _⟩ | ⟨g, e1, e2, _⟩
  · rw [e] at hb; exact .inr (Option.some.inj hb).symm
  · rw [e2] at hb; rw [e1]; exact .inl hb
theorem WS.blk {w0 w : World} {p b : Nat} {cv : Value} {c : List Nat} {D : List Bool} (h : WS w0 w p cv c D) (hb : cv.ownBlock = some b) : ∃ cs, w.heap[b]? = some (.cells cs 5 (0, 0)) := by
  rcases h.own.2 with ⟨rfl, _⟩ | ⟨g', cap, cur, rfl, _, hh, _⟩
  · simp [Value.ownBlock] at hb
  · simp only [Value.ownBlock, Option.some.injEq] at hb
    subst hb
    exact ⟨cur, hh⟩
/-- a byte more, its bits all clear -/
theorem WS.more {w0 w w4 : World} {p : Nat} {cv v4 : Value} {c : List Nat} {D : List Bool} (h : WS w0 w p cv c D) (h8 : D.length % 8 = 0) (ho : w4.ownsRow 0 5 1 v4 (c.length + 1) (c.map byV ++ [.int .u8 0])) (hu : Upn (w.alloc (.cells #[.int .u8 0] 5)) w4 cv v4) :
    ∃ g cap, v4 = .slice (some ⟨g, 0, none⟩) (c.length + 1) cap ∧ WQ w0 (w4.setCell ⟨p, 0, none⟩ v4) p g cap (c ++ [0]) D 7 ∧ TF p w (w4.setCell ⟨p, 0, none⟩ v4) ∧ w4.cell? ⟨p, 0, none⟩ = some cv ∧ w4.frozen? ⟨p, 0, none⟩ = false := by
  have hpw := h.pN
  have hws := h.chg.size
  have hsz : (w.alloc (.cells #[.int .u8 0] 5)).heap.size = w.heap.size + 1 := World.size_alloc ..
  have hcp : cv.ownBlock ≠ some p := fun e => by
    obtain ⟨cs, hcs⟩ := h.blk e
    have := h.row
    rw [hcs] at this
    simp at this
  have hold : ∀ b, b < w.heap.size → cv.ownBlock ≠ some b → w4.heap[b]? = w.heap[b]? := fun b hb hne => (hu.block b (by omega) hne).trans (Below.heap_alloc _ _ _ hb)
  have hrow : w4.heap[p]? = some (.cells #[cv, .int .i64 (D.length : Int)] 117 (0, 0)) := (hold p (by omega) hcp).trans h.row
  rcases ho.2 with ⟨hv, hz⟩ | ⟨g, cap, cur, rfl, hg0, hgc, hnc, hcm, hcs, htk⟩
  · omega
  · have hgp : g ≠ p := fun e => by rw [e] at hgc; rw [hgc] at hrow; simp at hrow
    have hgl : w0.heap.size ≤ g := by
      rcases hu.loc g rfl with e | e
      · exact h.loc g e
      · omega
    obtain ⟨q1, q2⟩ := h.wrt.grow h8
    have hlen : (c ++ [0]).length = c.length + 1 := by simp
    have hse : (w4.setCell ⟨p, 0, none⟩ (.slice (some ⟨g, 0, none⟩) (c.length + 1) cap)).heap.size = w4.heap.size := by simp [World.setCell]
    obtain ⟨s1, s2, s3⟩ := hu.same
    refine ⟨g, cap, rfl, ⟨?_, ?_, q2, q1, by decide, ⟨s1.trans h.chg.os, s2.trans h.chg.tape, s3.trans h.chg.output, ?_, fun b hb hne => ?_⟩, hgl, h.pN⟩, ⟨s1, s2, s3, ?_, fun b o h1 h2 h3 => ?_⟩, cell_of_row _ _ _ _ _ _ hrow, frozen_of_row _ _ _ _ _ hrow⟩
    · rw [hlen, Go.heap_setCell_same _ _ 0 _ 117 _ hrow]
      simp
    · rw [hlen, List.map_append]
      refine rowK8 ho fun b e => ?_
      simp only [Value.ownBlock, Option.some.injEq] at e
      subst e
      exact Go.heap_setCell_other _ _ _ _ hgp
    · rw [hse]
      have := hu.size
      omega
    · rw [Go.heap_setCell_other _ _ _ _ hne]
      exact (hold b (by omega) fun e => by have := h.loc b e; omega).trans (h.chg.keep b hb hne)
    · rw [hse]
      have := hu.size
      omega
    · rw [Go.heap_setCell_other _ _ _ _ h2]
      have hb : b < w.heap.size := (Array.getElem?_eq_some_iff.1 h1).1
      refine (hold b hb fun e => ?_).trans h1
      obtain ⟨cs, hcs⟩ := h.blk e
      rw [hcs] at h1
      exact h3 cs (0, 0) (Option.some.inj h1).symm
end Go.Proofs.YtedhohamdbplhaaDoor.B
namespace Go.Proofs.YtedhohamdbplhaaDoor.B
open Go.RowKit
set_option linter.unusedVariables false
set_option linter.unusedSimpArgs false
set_option maxRecDepth 20000

/-- one element behind an owned row: in new memory, and all that was stays; or in place -/
theorem run_app8 {P : Program} (w : World) (t ty e : TypeId) (i : TypeInfo) (z : Value) (bytes : Nat) (ht : P.underlying t = some (.slice e)) (hi : P.info? e = some i) (hz : i.zero = some z) (hsize : i.size = 1) (hby : i.bytes = bytes) (hzs : z.cells.size = 1)
    (v : Value) (n : Nat) (xs : List Value) (hown : w.ownsRow 0 e 1 v n xs) (a : Addr) (c : Nat) (x : Value) (hnews : ∀ j u, [x][j]? = some u → w.cell? (a.add j) = some u) (h1 : x.oneCell' = true) (h63 : n + 1 ≤ maxLen) (hbytes : ((n + 1) + (n + 1) / 4 + 192) * bytes ≤ 281474976710656) :
    ∃ v' w', (Builtin.append_ #[t, t] ty #[v, .slice (some a) 1 c]).run P w = .ok v' w' ∧ w'.ownsRow 0 e 1 v' (n + 1) (xs ++ [x]) ∧
      ((v'.ownBlock = some w.heap.size ∧ w.grownBy w' none) ∨ (∃ g, v.ownBlock = some g ∧ v'.ownBlock = some g ∧ w.grownBy w' (some g))) := by
  obtain ⟨v', w', hr, ho, hg, -⟩ := run_append_own_wide (P := P) w 0 t ty e i z 1 bytes ht hi hz hsize hby hzs (by decide) v n xs hown a 1 c [x] rfl hnews (by simp [h1]) h63 hbytes (Nat.zero_le _)
  refine ⟨v', w', hr, ho, ?_⟩
  have h63' : n + 1 ≤ 9223372036854775807 := by simp only [maxLen] at h63; omega
  rcases hown.2 with ⟨rfl, rfl⟩ | ⟨g, cap, cur, rfl, hbg, hgc, hnc, hcm, hcs, htake⟩
  · have hr2 := run_append_nil (P := P) w t ty e i z ht hi hz a 1 c [x] (by rw [hsize]; rfl) hnews (by decide) (by decide) (by
      rw [hby]
      exact Nat.le_trans (Nat.mul_le_mul_right _ (by decide)) hbytes)
    rw [hr] at hr2
    injection hr2 with e1 e2
    subst e1 e2
    exact .inl ⟨rfl, ⟨rfl, rfl, rfl, by simp, fun k hk _ => heap_alloc_old w.drew _ k hk⟩⟩
  · by_cases hroom : n + 1 ≤ cap
    · have hr2 := run_append_room (P := P) w t ty e i ht hi g n cap cur hgc a 1 c [x] (by rw [hsize]; rfl) hnews (by simp [h1]) hroom (by rw [hsize]; simp; omega)
      rw [hr] at hr2
      injection hr2 with e1 e2
      exact .inr ⟨g, rfl, by rw [e1]; rfl, hg⟩
    · have holds : ∀ j u, xs[j]? = some u → w.cell? ((⟨g, 0, none⟩ : Addr).add j) = some u := hown.cells (g := g) rfl
      have hr2 := run_append_grow (P := P) w t ty e i z ht hi hz ⟨g, 0, none⟩ n cap xs (by rw [hsize]; exact hown.1) holds a 1 c [x] (by rw [hsize]; rfl) hnews (by omega) (by omega) (by rw [hby]; exact growslice_fits_wide (by omega) hbytes)
      rw [hr] at hr2
      injection hr2 with e1 e2
      subst e1 e2
      exact .inl ⟨rfl, ⟨rfl, rfl, rfl, by simp, fun k hk _ => heap_alloc_old w.drew _ k hk⟩⟩
theorem wpList_app8 {P : Program} (w : World) {ops : Array Oper} {rest : List Oper} {o : Oper} {a : Act} {Q : Exit → Act → World → Prop} (hgd : o.guard = none) (s x : Operand) (t : TypeId)
    (ho : o.op = .call { callee := .builtin .append, args := #[s, x], argTypes := #[t, t] })
    (e : TypeId) (i : TypeInfo) (z : Value) (bytes : Nat) (ht : P.underlying t = some (.slice e)) (hi : P.info? e = some i) (hz : i.zero = some z) (hsize : i.size = 1) (hby : i.bytes = bytes) (hzs : z.cells.size = 1)
    (v : Value) (n : Nat) (xs : List Value) (hs : a.eval s = v) (hown : w.ownsRow 0 e 1 v n xs) (ad : Addr) (c : Nat) (y : Value) (hx : a.eval x = .slice (some ad) 1 c) (hnews : ∀ j u, [y][j]? = some u → w.cell? (ad.add j) = some u) (h1 : y.oneCell' = true) (h63 : n + 1 ≤ maxLen) (hbytes : ((n + 1) + (n + 1) / 4 + 192) * bytes ≤ 281474976710656)
    (h : ∀ v' w', w'.ownsRow 0 e 1 v' (n + 1) (xs ++ [y]) → ((v'.ownBlock = some w.heap.size ∧ w.grownBy w' none) ∨ (∃ g, v.ownBlock = some g ∧ v'.ownBlock = some g ∧ w.grownBy w' (some g))) → wpList P ops Q rest (a.put o.dst v') w') :
    wpList P ops Q (o :: rest) a w := by
  refine wpList_plain hgd fun K hK => ?_
  obtain ⟨v', w', hr, h2, h3⟩ := run_app8 (P := P) w t o.type e i z bytes ht hi hz hsize hby hzs v n xs hown ad c y hnews h1 h63 hbytes
  unfold Oper.wp execOp
  simp only [ho, resolve, invoke, builtin, Sem.run_bind, Sem.run_pure, Result.andThen_ok, List.map_toArray, List.map_cons, List.map_nil, hs, hx, hr]
  exact hK _ _ (h v' w' h2 h3)

theorem Tryd.infoB : (Tryd.prog.info? 5).map (fun i => (i.zero, i.size, i.bytes)) = some (some (.int .u8 0), 1, 1) := by kernel_rfl
theorem infoBs : ∃ i, Tryd.prog.info? 5 = some i ∧ i.zero = some (.int .u8 0) ∧ i.size = 1 ∧ i.bytes = 1 := by
  have h := Tryd.infoB
  cases hi : Tryd.prog.info? 5 with
  | none => rw [hi] at h; simp at h
  | some i => rw [hi] at h; simp at h; exact ⟨i, rfl, h.1, h.2.1, h.2.2⟩
theorem new_one (w : World) (x : Value) : ∀ j u, [x][j]? = some u → (w.alloc (.cells #[x] 5)).cell? ((⟨w.heap.size, 0, none⟩ : Addr).add j) = some u := fun j u h => by
  have : (w.alloc (.cells #[x] 5)).heap[w.heap.size]? = some (.cells #[x] 5 (0, 0)) := Go.heap_alloc_new _ _
  rw [Addr.add_lit, cell_of_row _ _ _ _ _ _ this]
  simpa using h
set_option maxHeartbeats 2000000 in
theorem wdigit_more {w0 w : World} {p : Nat} {cv : Value} {c : List Nat} {D : List Bool} (h : WS w0 w p cv c D) (d : Bool) (hD : D.length ≤ 10000000) (h8 : D.length % 8 = 0) :
    Calls Tryd.prog 48 #[.pointer (some ⟨p, 0, none⟩), .int .u64 ((d.toNat : Nat) : Int)] w fun e w' => e = .returned (.tuple #[]) ∧ ∃ cv' c', WS w0 w' p cv' c' (D ++ [d]) ∧ TF p w w' := by
    obtain ⟨i0, hi0, hz0, hz1, hz2⟩ := infoBs
    have hcl := h.wrt.len
    have c0 : w.cell? ⟨p, 0, none⟩ = some cv := cell_of_row _ _ _ _ _ _ h.row
    have c1 : w.cell? ⟨p, 1, none⟩ = some (.int .i64 (D.length : Int)) := cell_of_row _ _ _ _ _ _ h.row
    obtain ⟨a0, cap0, rfl, hcc, hcc2⟩ : ∃ a cap, cv = .slice a c.length cap ∧ c.length ≤ cap ∧ cap ≤ maxLen := by
      rcases h.own.2 with ⟨rfl, hz⟩ | ⟨g, cap, cur, rfl, _, _, h1, h2, _⟩
      · exact ⟨_, _, by rw [hz], by omega, Nat.zero_le _⟩
      · exact ⟨_, _, rfl, h1, h2⟩
    have o3 := h.own.alloc (.cells #[.int .u8 0] 5)
    have h8i : ((D.length : Int) % 8 == 0) = true := by simp; omega
    have HM := hide fun (w4 : World) (v4 : Value) ho hu => h.more (w4 := w4) (v4 := v4) h8 ho hu
    have HCL := hide hcl
    have hb7 : c.length ≤ 1250001 := by omega
    clear hcl h
    go_enter Tryd.func48, Tryd.ntmps48
    go_wp2_with (at_builtin; refine wpList_app8 _ rfl (.tmp 14) (.tmp 15) 34 rfl 5 i0 (.int .u8 0) 1 Tryd.underlying34 hi0 hz0 hz1 hz2 rfl _ _ _ rfl o3 ⟨w.heap.size, 0, none⟩ 1 (.int .u8 0) rfl (new_one w _) rfl (by unfold maxLen; omega) (by omega) ?_)
    intro v4 w4 ho4 hup4
    obtain ⟨g, cap, rfl, hQ, hTF, k0, kf⟩ := HM.out w4 v4 ho4 (by unfold Upn; rw [World.size_alloc]; exact hup4)
    have HQ := hide hQ
    have HTF := hide hTF
    clear ho4 hup4 HM o3 hQ hTF
    go_wp2_with fail
    have hlc : (c ++ [0]).length = c.length + 1 := by simp
    clear k0 kf c0 c1
    generalize w4.setCell ⟨p, 0, none⟩ (.slice (some ⟨g, 0, none⟩) (c.length + 1) cap) = W at *
    generalize c ++ [0] = cc at *
    rw [← hlc]
    clear hlc hcc hcc2 hb7 HCL
    have h := HQ.out
    clear HQ
    obtain ⟨hK0, -, -⟩ := wrt_put h.byt h.dg h.m8 d
    have HPUT := hide (h.put d ((D.length : Int) + 1) rfl)
    have c0 : W.cell? ⟨p, 0, none⟩ = some (.slice (some ⟨g, 0, none⟩) cc.length cap) := cell_of_row _ _ _ _ _ _ h.row
    have c1 : W.cell? ⟨p, 1, none⟩ = some (.int .i64 (D.length : Int)) := cell_of_row _ _ _ _ _ _ h.row
    have f1 : W.frozen? ⟨p, 1, none⟩ = false := frozen_of_row _ _ _ _ _ h.row
    have c2 := h.cell hK0
    have hx : cc.getD (D.length / 8) 0 < 256 := by
      have : cc.getD (D.length / 8) 0 = cc[D.length / 8] := by simp [List.getD, hK0]
      rw [this]
      exact h.byt _ (List.getElem_mem hK0)
    obtain ⟨cs, hcs⟩ := h.blk
    have f2 : W.frozen? ⟨g, D.length / 8, none⟩ = false := frozen_of_row _ _ _ _ _ hcs
    have hgp : g ≠ p := fun e => by have := h.row; rw [← e, hcs] at this; simp at this
    have hcap : cc.length ≤ cap ∧ cap ≤ 9223372036854775807 := by
      rcases h.own.2 with ⟨hv, hz⟩ | ⟨g', cap', cur, e, hg0, hgc, hnc, hcm, -⟩
      · simp at hv
      · simp only [Value.slice.injEq] at e
        unfold maxLen at hcm
        omega
    have hM := hD
    obtain ⟨K, hK⟩ : ∃ K, D.length / 8 = K := ⟨_, rfl⟩
    obtain ⟨J, hJ⟩ : ∃ J, D.length % 8 = J := ⟨_, rfl⟩
    obtain ⟨S, hS⟩ : ∃ S, 7 - J = S := ⟨_, rfl⟩
    have hJ8 : J < 8 := by omega
    have hd1 : (D.length : Int) / 8 = (K : Int) := by omega
    have hd2 : (D.length : Int).tdiv 8 = (K : Int) := by rw [Int.tdiv_eq_ediv_of_nonneg (by omega)]; exact hd1
    have hd3 : IntKind.i64.wrap (K : Int) = (K : Int) := by simp [IntKind.wrap, IntKind.bits, IntKind.signed]; omega
    have hd4 : IntKind.i64.wrap ((D.length : Int) / 8) = (K : Int) := by rw [hd1]; exact hd3
    have hrm : (D.length : Int) % 8 = (J : Int) := by omega
    have hrm1 : (D.length : Int).tmod 8 = (J : Int) := by rw [Int.tmod_eq_emod_of_nonneg (by omega)]; exact hrm
    have hrm2 : IntKind.i64.wrap (J : Int) = (J : Int) := by simp [IntKind.wrap, IntKind.bits, IntKind.signed]; omega
    have hrm3 : IntKind.i64.wrap ((D.length : Int) % 8) = (J : Int) := by rw [hrm]; exact hrm2
    have hsb : (7 : Int) - (J : Int) = (S : Int) := by omega
    have hsb1 : IntKind.i64.wrap (S : Int) = (S : Int) := by simp [IntKind.wrap, IntKind.bits, IntKind.signed]; omega
    have hsb2 : IntKind.i64.wrap ((7 : Int) - (J : Int)) = (S : Int) := by rw [hsb]; exact hsb1
    have hdv : IntKind.u8.wrap ((d.toNat : Nat) : Int) = ((d.toNat : Nat) : Int) := by cases d <;> rfl
    have hpw : d.toNat * 2 ^ S < 256 := by
      have h1 : d.toNat ≤ 1 := by cases d <;> simp
      have h2 : 2 ^ S ≤ 2 ^ 7 := Nat.pow_le_pow_right (by decide) (by omega)
      have h3 : d.toNat * 2 ^ S ≤ 1 * 2 ^ S := Nat.mul_le_mul_right _ h1
      omega
    have hsh : Op.shift .shl .u8 ((d.toNat : Nat) : Int) .i64 (S : Int) = (pure (.int .u8 ((d.toNat * 2 ^ S : Nat) : Int)) : Sem Value) := by
      rw [shift_shl .u8 .i64 ((d.toNat : Nat) : Int) (S : Int) (by omega) (by simp [IntKind.bits]; omega), Int.toNat_natCast]
      congr 2
      have e : ((d.toNat : Nat) : Int) * 2 ^ S = ((d.toNat * 2 ^ S : Nat) : Int) := by simp
      rw [e, IntKind.wrap_u8']
      omega
    have hkc : (0 : Int) ≤ (K : Int) := by omega
    rw [hK] at c2 hx f2 HPUT hK0
    rw [hJ] at HPUT
    have hkl : (K : Int) < (cc.length : Int) := by omega
    have hor : bits .or .u8 ((cc.getD K 0 : Nat) : Int) ((d.toNat * 2 ^ S : Nat) : Int) = ((orD (cc.getD K 0) J d : Nat) : Int) := by
      rw [u8_or_nat _ _ hx hpw]
      unfold orD
      rw [hS]
    have c1x : ∀ v, (W.drew.setCell ⟨g, K, none⟩ v).cell? ⟨p, 1, none⟩ = some (.int .i64 (D.length : Int)) := fun v => by
      rw [World.cell?_of_block (Go.heap_setCell_other _ _ _ _ (by show p ≠ g; exact Ne.symm hgp))]
      exact c1
    have f1x : ∀ v, (W.drew.setCell ⟨g, K, none⟩ v).frozen? ⟨p, 1, none⟩ = false := fun v => by
      rw [World.frozen?_of_block (Go.heap_setCell_other _ _ _ _ (by show p ≠ g; exact Ne.symm hgp))]
      exact f1
    have hor2 : bits .or .u8 ((cc.getD K 0 : Nat) : Int) (((d.toNat : Nat) : Int) * 2 ^ S % 256) = ((orD (cc.getD K 0) J d : Nat) : Int) := by
      have e : ((d.toNat : Nat) : Int) * 2 ^ S = ((d.toNat * 2 ^ S : Nat) : Int) := by simp
      have e2 : ((d.toNat * 2 ^ S : Nat) : Int) % 256 = ((d.toNat * 2 ^ S : Nat) : Int) := by omega
      rw [e, e2]
      exact hor
    generalize cc.getD K 0 = x at *
    generalize orD x J d = y at *
    generalize d.toNat * 2 ^ S = z at *
    clear h hcs h8i
    have HDD := hide hK
    clear hK hJ hS
    generalize hdl : D.length = M at *
    clear hdl
    refine wp_still_tail 21 (by kernel_rfl) (by kernel_rfl) ?_
    simp only [List.take_succ_cons, List.take_zero, List.drop_succ_cons, List.drop_zero]
    repeat still_step
    refine wpStill_nil ?_
    have c1y := c1x (.int .u8 (y : Int))
    have f1y := f1x (.int .u8 (y : Int))
    clear c1x f1x
    go_wp2_with fail
    go_end0
    exact ⟨rfl, _, _, HPUT.out.1, HTF.out.trans HPUT.out.2⟩
end Go.Proofs.YtedhohamdbplhaaDoor.B
namespace Go.Proofs.YtedhohamdbplhaaDoor.B
open Go.RowKit
set_option linter.unusedVariables false
set_option linter.unusedSimpArgs false
set_option maxRecDepth 20000

/-- bytes that can be read -/
def CSl (w : World) (v : Value) (c : List Nat) : Prop := ∃ a cap, v = .slice a c.length cap ∧ c.length ≤ cap ∧ cap ≤ maxLen ∧ (∀ x ∈ c, x < 256) ∧ (0 < c.length → ∃ b off, a = some ⟨b, off, none⟩ ∧ ∀ i, i < c.length → w.cell? ⟨b, off + i, none⟩ = some (.int .u8 (c.getD i 0 : Nat)))
/-- a reader of digits: T of them are taken -/
def RdM (w : World) (p : Nat) (cv : Value) (T : Nat) : Prop := w.heap[p]? = some (.cells #[cv, .int .i64 (T : Int)] 127 (0, 0))
theorem CSl.step {w w' : World} {p T : Nat} {cv cv' : Value} {c : List Nat} (h : CSl w cv c) (hr : RdM w p cv' T) (hcv : ∃ a n k, cv' = .slice a n k) (hk : Chg (fun b => b = p) w w') : CSl w' cv c := by
  obtain ⟨a, cap, rfl, h1, h2, h3, h4⟩ := h
  refine ⟨a, cap, rfl, h1, h2, h3, fun h0 => ?_⟩
  obtain ⟨b, off, rfl, hc⟩ := h4 h0
  refine ⟨b, off, rfl, fun i hi => ?_⟩
  have hb : b < w.heap.size := World.block_lt_of_cell? w _ (hc i hi)
  have hne : b ≠ p := fun e => by
    subst e
    have := hc i hi
    rw [cell_of_row _ _ _ _ _ _ hr] at this
    obtain ⟨a, n, k, rfl⟩ := hcv
    cases hx : off + i with
    | zero => rw [hx] at this; simp at this
    | succ j =>
      cases j with
      | zero => rw [hx] at this; simp at this
      | succ j => rw [hx] at this; simp at this
  rw [World.cell?_of_block (hk.keep b hb hne)]
  exact hc i hi
theorem and_1 (n : Int) : bits .and .i64 n 1 = n % 2 := by
  have h1 : (BitVec.ofInt 64 1).toNat = 2 ^ 1 - 1 := by decide
  have key : (BitVec.ofInt 64 n &&& BitVec.ofInt 64 1).toNat = (n % ((2 ^ 64 : Nat) : Int)).toNat % 2 ^ 1 := by
    rw [BitVec.toNat_and, BitVec.toNat_ofInt, h1, Nat.and_two_pow_sub_one_eq_mod]
  show IntKind.i64.wrap ((BitVec.ofInt 64 n &&& BitVec.ofInt 64 1).toNat : Nat) = n % 2
  rw [key, IntKind.wrap_i64]
  omega
theorem bit_out {x k : Nat} (hx : x < 256) : bits .and .i64 (wrap64 ((x : Int) / 2 ^ k)) 1 = ((x.testBit k).toNat : Nat) := by
  have e : ((x : Int) / 2 ^ k) = ((x / 2 ^ k : Nat) : Int) := by simp
  have hl : x / 2 ^ k ≤ x := Nat.div_le_self _ _
  have hw : wrap64 ((x : Int) / 2 ^ k) = ((x / 2 ^ k : Nat) : Int) := by
    rw [e]
    generalize x / 2 ^ k = y at *
    unfold wrap64
    omega
  rw [hw, and_1, Nat.toNat_testBit]
  simp
/-- the digit at T -/
def dgV (c : List Nat) (T : Nat) : Bool := (c.getD (T / 8) 0).testBit (7 - T % 8)
set_option maxHeartbeats 1000000 in
theorem digit_yes {w : World} {p T : Nat} {cv : Value} {c : List Nat} (hr : RdM w p cv T) (hc : CSl w cv c) (hT : T < 4611686018427387904) (hin : T / 8 < c.length) :
    Calls Tryd.prog 64 #[.pointer (some ⟨p, 0, none⟩)] w fun e w' => e = .returned (.tuple #[.int .i64 ((dgV c T).toNat : Nat), .bool true]) ∧ RdM w' p cv (T + 1) ∧ Chg (fun b => b = p) w w' := by
  obtain ⟨a, cap, rfl, h1, h2, h3, h4⟩ := hc
  obtain ⟨b, off, rfl, hcell⟩ := h4 (by omega)
  have c0 : w.cell? ⟨p, 0, none⟩ = some (.slice (some ⟨b, off, none⟩) c.length cap) := cell_of_row _ _ _ _ _ _ hr
  have c1 : w.cell? ⟨p, 1, none⟩ = some (.int .i64 (T : Int)) := cell_of_row _ _ _ _ _ _ hr
  have f1 : w.frozen? ⟨p, 1, none⟩ = false := frozen_of_row _ _ _ _ _ hr
  have hne : b ≠ p := fun e => by
    subst e
    have := hcell (T / 8) hin
    rw [cell_of_row _ _ _ _ _ _ hr] at this
    cases hx : off + T / 8 with
    | zero => rw [hx] at this; simp at this
    | succ j =>
      cases j with
      | zero => rw [hx] at this; simp at this
      | succ j => rw [hx] at this; simp at this
  have k1 : (w.setCell ⟨p, 1, none⟩ (.int .i64 ((T : Int) + 1))).cell? ⟨b, off + T / 8, none⟩ = some (.int .u8 (c.getD (T / 8) 0 : Nat)) := by
    rw [World.cell?_of_block (Go.heap_setCell_other _ _ _ _ (by show b ≠ p; exact hne))]
    exact hcell (T / 8) hin
  have hx : c.getD (T / 8) 0 < 256 := by
    have : c.getD (T / 8) 0 = c[T / 8] := by simp [List.getD, hin]
    rw [this]
    exact h3 _ (List.getElem_mem hin)
  have hcmp : ¬ (c.length : Int) ≤ (T : Int) / 8 := by omega
  have hii : 0 ≤ (T : Int) / 8 ∧ (T : Int) / 8 < (c.length : Int) := ⟨by omega, by omega⟩
  have HR : Hid (RdM (w.setCell ⟨p, 1, none⟩ (.int .i64 ((T : Int) + 1))) p (.slice (some ⟨b, off, none⟩) c.length cap) (T + 1)) := hide (by
    unfold RdM
    rw [Go.heap_setCell_same _ _ 1 _ 127 _ hr]
    rfl)
  have HC : Hid (Chg (fun b => b = p) w (w.setCell ⟨p, 1, none⟩ (.int .i64 ((T : Int) + 1)))) := hide ⟨rfl, rfl, rfl, by simp [World.setCell], fun b _ hb => Go.heap_setCell_other _ _ _ _ hb⟩
  unfold dgV
  generalize c.getD (T / 8) 0 = x at *
  clear hcell h4 hr h3 hne
  go_enter Tryd.func64, Tryd.ntmps64
  go_wp2_with fail
  refine bodyPost_ret (results_tmp2 rfl _ _ _) rfl ?_
  exact ⟨by rw [← bit_out hx]; rfl, HR.out, HC.out⟩
set_option maxHeartbeats 1000000 in
theorem digit_no {w : World} {p T : Nat} {cv : Value} {c : List Nat} (hr : RdM w p cv T) (hc : CSl w cv c) (hT : T < 4611686018427387904) (hin : ¬ T / 8 < c.length) :
    Calls Tryd.prog 64 #[.pointer (some ⟨p, 0, none⟩)] w fun e w' => e = .returned (.tuple #[.int .i64 0, .bool false]) ∧ RdM w' p cv (T + 1) ∧ Chg (fun b => b = p) w w' := by
  obtain ⟨a, cap, rfl, h1, h2, h3, h4⟩ := hc
  have c0 : w.cell? ⟨p, 0, none⟩ = some (.slice a c.length cap) := cell_of_row _ _ _ _ _ _ hr
  have c1 : w.cell? ⟨p, 1, none⟩ = some (.int .i64 (T : Int)) := cell_of_row _ _ _ _ _ _ hr
  have f1 : w.frozen? ⟨p, 1, none⟩ = false := frozen_of_row _ _ _ _ _ hr
  have hcmp : (c.length : Int) ≤ (T : Int) / 8 := by omega
  have HR : Hid (RdM (w.setCell ⟨p, 1, none⟩ (.int .i64 ((T : Int) + 1))) p (.slice a c.length cap) (T + 1)) := hide (by
    unfold RdM
    rw [Go.heap_setCell_same _ _ 1 _ 127 _ hr]
    rfl)
  have HC : Hid (Chg (fun b => b = p) w (w.setCell ⟨p, 1, none⟩ (.int .i64 ((T : Int) + 1)))) := hide ⟨rfl, rfl, rfl, by simp [World.setCell], fun b _ hb => Go.heap_setCell_other _ _ _ _ hb⟩
  clear h4 hr h3
  go_enter Tryd.func64, Tryd.ntmps64
  go_wp2_with fail
  refine bodyPost_ret (results_tmp2 rfl _ _ _) rfl ?_
  exact ⟨rfl, HR.out, HC.out⟩
/-- a reader between two digits -/
structure RS (w w' : World) (p : Nat) (cv : Value) (c : List Nat) (T : Nat) : Prop where
  rd : RdM w' p cv T
  sl : CSl w' cv c
  chg : Chg (fun b => b = p) w w'
theorem RS.step {w w' w'' : World} {p T : Nat} {cv : Value} {c : List Nat} (h : RS w w' p cv c T) (h1 : RdM w'' p cv (T + 1)) (h2 : Chg (fun b => b = p) w' w'') : RS w w'' p cv c (T + 1) :=
  ⟨h1, h.sl.step h.rd (by obtain ⟨a, cap, rfl, _⟩ := h.sl; exact ⟨_, _, _, rfl⟩) h2, h.chg.trans h2⟩
theorem RS.digit {w w' : World} {p T : Nat} {cv : Value} {c : List Nat} (h : RS w w' p cv c T) (hT : T < 4611686018427387904) :
    Calls Tryd.prog 64 #[.pointer (some ⟨p, 0, none⟩)] w' fun e w'' => e = .returned (.tuple #[.int .i64 ((((dgR ((digs c).drop T)).2.getD false).toNat : Nat) : Int), .bool (dgR ((digs c).drop T)).2.isSome]) ∧ RS w w'' p cv c (T + 1) := by
  by_cases hin : T / 8 < c.length
  · rw [digs_drop_get hin]
    exact (digit_yes h.rd h.sl hT hin).mono fun e w'' ⟨h1, h2, h3⟩ => ⟨h1, h.step h2 h3⟩
  · rw [digs_drop_end hin]
    exact (digit_no h.rd h.sl hT hin).mono fun e w'' ⟨h1, h2, h3⟩ => ⟨h1, h.step h2 h3⟩
end Go.Proofs.YtedhohamdbplhaaDoor.B
namespace Go.Proofs.YtedhohamdbplhaaDoor.B
open Go.RowKit
set_option linter.unusedVariables false
set_option linter.unusedSimpArgs false
set_option maxRecDepth 20000

/-- behind k zeros -/
def stK (most k : Nat) : Rd Nat := bndR (zerR most (20 - k) k) fun j _ => loR most j (2 ^ j)
theorem stK_zero (most : Nat) : stK most 0 = stR most := rfl
theorem stK_nil {most k : Nat} (hk : k < 20) : stK most k [] = (1, none) := by
  unfold stK
  rw [show 20 - k = (19 - k) + 1 by omega]
  rfl
theorem stK_one {most k : Nat} (hk : k < 20) (l : List Bool) : stK most k (true :: l) = (1 + (loR most k (2 ^ k) l).1, (loR most k (2 ^ k) l).2) := by
  have hz : zerR most (20 - k) k (true :: l) = (1, some k) := by
    rw [show 20 - k = (19 - k) + 1 by omega]
    show bndR dgR _ (true :: l) = _
    rw [bndR_some (c := 1) (a := true) rfl, if_pos rfl]
    rfl
  unfold stK
  rw [bndR_some hz]
  rfl
theorem stK_bad {most k : Nat} (hk : k < 20) (l : List Bool) (h : most < 2 ^ (k + 1)) : stK most k (false :: l) = (1, none) := by
  have hz : zerR most (20 - k) k (false :: l) = (1, none) := by
    rw [show 20 - k = (19 - k) + 1 by omega]
    show bndR dgR _ (false :: l) = _
    rw [bndR_some (c := 1) (a := false) rfl, if_neg (by simp), if_pos h]
    rfl
  unfold stK
  rw [bndR_none hz]
theorem stK_go {most k : Nat} (hk : k < 20) (l : List Bool) (h : ¬ most < 2 ^ (k + 1)) : stK most k (false :: l) = (1 + (stK most (k + 1) l).1, (stK most (k + 1) l).2) := by
  have hz : zerR most (20 - k) k (false :: l) = (1 + (zerR most (20 - (k + 1)) (k + 1) l).1, (zerR most (20 - (k + 1)) (k + 1) l).2) := by
    rw [show 20 - k = (20 - (k + 1)) + 1 by omega]
    conv => lhs; unfold zerR
    rw [bndR_some (c := 1) (a := false) rfl, if_neg (by simp), if_neg h]
    rfl
  unfold stK
  cases e : zerR most (20 - (k + 1)) (k + 1) l with
  | mk c o =>
    rw [e] at hz
    cases o with
    | none => rw [bndR_none hz, bndR_none e]
    | some j =>
      rw [bndR_some hz, bndR_some e]
      have : List.drop (1 + c) (false :: l) = List.drop c l := by rw [Nat.add_comm]; rfl
      rw [this]
      simp [Nat.add_assoc]
theorem lo_nil {most k x : Nat} : loR most (k + 1) x [] = (1, none) := rfl
theorem lo_bad {most k x : Nat} {d : Bool} (l : List Bool) (h : most < x + d.toNat * 2 ^ k) : loR most (k + 1) x (d :: l) = (1, none) := by
  unfold loR
  rw [bndR_some (c := 1) (a := d) rfl, if_pos h]
  rfl
theorem lo_go {most k x : Nat} {d : Bool} (l : List Bool) (h : ¬ most < x + d.toNat * 2 ^ k) : loR most (k + 1) x (d :: l) = (1 + (loR most k (x + d.toNat * 2 ^ k) l).1, (loR most k (x + d.toNat * 2 ^ k) l).2) := by
  conv => lhs; unfold loR
  rw [bndR_some (c := 1) (a := d) rfl, if_neg h]
  rfl
theorem pow_small {k most : Nat} (h : 2 ^ k ≤ most) (hm : most ≤ 65536) : k ≤ 16 := by
  have e : 2 ^ 16 = 65536 := by decide
  exact (Nat.pow_le_pow_iff_right (by decide : 1 < 2)).1 (by rw [e]; omega)
theorem or_nat (a b : Nat) (ha : a < 4611686018427387904) (hb : b < 4611686018427387904) : bits .or .i64 (a : Int) (b : Int) = ((a ||| b : Nat) : Int) := by
  have e : ∀ x : Nat, x < 4611686018427387904 → (BitVec.ofInt 64 (x : Int)).toNat = x := fun x hx => by
    rw [BitVec.toNat_ofInt]
    omega
  have key : (BitVec.ofInt 64 (a : Int) ||| BitVec.ofInt 64 (b : Int)).toNat = a ||| b := by rw [BitVec.toNat_or, e a ha, e b hb]
  show IntKind.i64.wrap ((BitVec.ofInt 64 (a : Int) ||| BitVec.ofInt 64 (b : Int)).toNat : Nat) = _
  have hl : a ||| b < 2 ^ 62 := Nat.or_lt_two_pow (by exact ha) (by exact hb)
  rw [key, IntKind.wrap_i64]
  have : (2 : Nat) ^ 62 = 4611686018427387904 := by decide
  omega
/-- what has come of a reader so far, and what is left -/
def Lft (R : Nat × Option Nat) (k : Nat) (F : Nat × Option Nat) : Prop := R = (k + F.1, F.2)
theorem digs_cases (c : List Nat) (T : Nat) : ((digs c).drop T = [] ) ∨ ∃ d, (digs c).drop T = d :: (digs c).drop (T + 1) := by
  by_cases hin : T / 8 < c.length
  · exact .inr ⟨_, digs_drop_get hin⟩
  · exact .inl (digs_drop_end hin)
set_option maxHeartbeats 2000000 in
theorem stretch_any {w0 w : World} {p T : Nat} {cv : Value} {c : List Nat} (h : RS w0 w p cv c T) (hT : T < 4611686018427300000) (most : Nat) (h1 : 1 ≤ most) (h2 : most ≤ 65536) :
    Calls Tryd.prog 65 #[.pointer (some ⟨p, 0, none⟩), .int .i64 (most : Int)] w fun e w' => e = .returned (.tuple #[.int .i64 (((stR most ((digs c).drop T)).2.getD 0 : Nat) : Int), .bool (stR most ((digs c).drop T)).2.isSome]) ∧ RS w0 w' p cv c (T + (stR most ((digs c).drop T)).1) := by
  obtain ⟨R, hR⟩ : ∃ R, stR most ((digs c).drop T) = R := ⟨_, rfl⟩
  rw [hR]
  have HR := hide hR
  have HS := hide h
  clear hR h
  go_enter Tryd.func65, Tryd.ntmps65
  go_wp2_with fail
  go_loopw [6, 7] (fun z y wr => ∃ k t : Nat, y = .int .i64 (k : Int) ∧ z = .int .i64 (t : Int) ∧ t ≤ most ∧ Hid (t = 2 ^ k) ∧ Hid (RS w0 wr p cv c (T + k)) ∧ Hid (Lft R k (stK most k ((digs c).drop (T + k))))) (fun _ y _ => 20 - (intOf y).toNat)
  case atStart => exact ⟨0, 1, rfl, rfl, h1, hide rfl, hide HS.out, hide (by unfold Lft; rw [stK_zero, Nat.add_zero, ← HR.out]; simp)⟩
  case round =>
    obtain ⟨k, t, rfl, rfl, ht, HTK, HRS, HL⟩ := hrel
    clear HS HR
    have hk : k ≤ 16 := pow_small (by rw [← HTK.out]; exact ht) h2
    have HD := hide (HRS.out.digit (by omega))
    rcases digs_cases c (T + k) with hnil | ⟨d, hcons⟩
    · rw [hnil] at HD HL
      have HL2 : Hid (R = (k + 1, none)) := hide (by have := HL.out; unfold Lft at this; rw [stK_nil (by omega)] at this; exact this)
      clear hnil HL
      simp only [dgR, Option.getD, Option.isSome, Bool.toNat_false] at HD
      go_wp2_with (go_at_call 64; refine HD.out.mono ?_; clear HD; rintro e w' ⟨rfl, h8⟩; have H8 := hide h8; clear h8)
      refine bodyPost_ret (results_tmp2 rfl _ _ _) rfl ?_
      rw [HL2.out]
      exact ⟨rfl, by rw [← Nat.add_assoc]; exact H8.out⟩
    · rw [hcons] at HD HL
      simp only [dgR, Option.getD, Option.isSome] at HD
      cases d with
      | true =>
        have HL2 : Hid (Lft R (k + 1) (loR most k t ((digs c).drop (T + k + 1)))) := hide (by have := HL.out; unfold Lft at this ⊢; rw [this, stK_one (by omega), HTK.out]; exact Prod.ext (by show k + (1 + _) = k + 1 + _; omega) rfl)
        clear hcons HL
        simp only [Bool.toNat_true] at HD
        go_wp2_with (go_at_call 64; refine HD.out.mono ?_; clear HD; rintro e w' ⟨rfl, h8⟩; have H8 := hide h8; clear h8)
        have HDV : Hid (2 ^ k ∣ t) := hide (by rw [HTK.out]; exact Nat.dvd_refl _)
        have HT1 : Hid (t ≤ most) := hide ht
        go_loopw [6, 10] (fun z y wr => ∃ j x n : Nat, y = .int .i64 ((j : Int) - 1) ∧ z = .int .i64 (x : Int) ∧ x ≤ most ∧ j ≤ 16 ∧ n + j ≤ 33 ∧ Hid (2 ^ j ∣ x) ∧ Hid (RS w0 wr p cv c (T + n)) ∧ Hid (Lft R n (loR most j x ((digs c).drop (T + n))))) (fun _ y _ => (intOf y + 1).toNat)
        case atStart => exact ⟨k, t, k + 1, rfl, rfl, HT1.out, hk, by omega, HDV, hide (by rw [← Nat.add_assoc]; exact H8.out), hide (by rw [← Nat.add_assoc]; exact HL2.out)⟩
        case round =>
          clear HL2 H8 HRS HDV HT1 HTK ht hk
          obtain ⟨j, x, n, rfl, rfl, hx, hj, hn, HDV, HRS, HL⟩ := hrel
          cases j with
          | zero =>
            have hge : ¬ (0 : Int) ≤ ((0 : Nat) : Int) - 1 := by omega
            have HL2 : Hid (R = (n, some x)) := hide HL.out
            clear HL
            go_wp2_with fail
            refine bodyPost_ret (results_tmp2 rfl _ _ _) rfl ?_
            rw [HL2.out]
            exact ⟨rfl, HRS.out⟩
          | succ j =>
            have ej : (((j + 1 : Nat) : Int) - 1) = (j : Int) := by omega
            rw [ej]
            have HD := hide (HRS.out.digit (by omega))
            rcases digs_cases c (T + n) with hnil | ⟨d, hcons⟩
            · rw [hnil] at HD HL
              have HL2 : Hid (R = (n + 1, none)) := hide HL.out
              clear hnil HL
              simp only [dgR, Option.getD, Option.isSome, Bool.toNat_false] at HD
              go_wp2_with (go_at_call 64; refine HD.out.mono ?_; clear HD; rintro e w' ⟨rfl, h8⟩; have H8 := hide h8; clear h8)
              refine bodyPost_ret (results_tmp2 rfl _ _ _) rfl ?_
              rw [HL2.out]
              exact ⟨rfl, by rw [← Nat.add_assoc]; exact H8.out⟩
            · rw [hcons] at HD HL
              simp only [dgR, Option.getD, Option.isSome] at HD
              have HDW : Hid (2 ^ j ∣ x) := hide (Nat.dvd_trans ⟨2, by rw [Nat.pow_succ]⟩ HDV.out)
              cases d with
              | false =>
                have hor : bits .or .i64 (x : Int) 0 = (x : Int) := by
                  have := or_nat x 0 (by omega) (by decide)
                  simpa using this
                have hnb : ¬ most < x := by omega
                have HL2 : Hid (Lft R (n + 1) (loR most j x ((digs c).drop (T + (n + 1))))) := hide (by
                  have := HL.out
                  unfold Lft at this ⊢
                  rw [this, lo_go _ (by simp; omega)]
                  simp only [Bool.toNat_false, Nat.zero_mul, Nat.add_zero]
                  exact Prod.ext (by show n + (1 + _) = n + 1 + _; rw [← Nat.add_assoc, ← Nat.add_assoc]) rfl)
                clear hcons HL
                simp only [Bool.toNat_false] at HD
                go_wp2_with (go_at_call 64; refine HD.out.mono ?_; clear HD; rintro e w' ⟨rfl, h8⟩; have H8 := hide h8; clear h8)
                go_roundw
                case rel => exact ⟨j, x, n + 1, rfl, rfl, hx, by omega, by omega, HDW, hide (by rw [← Nat.add_assoc]; exact H8.out), HL2⟩
                case measure => simp [intOf] <;> omega
              | true =>
                simp only [Bool.toNat_true] at HD
                have hj16 : 2 ^ j ≤ 65536 := by
                  have e : 2 ^ 16 = 65536 := by decide
                  rw [← e]
                  exact Nat.pow_le_pow_right (by decide) (by omega)
                have hw : wrap64 (2 ^ j) = ((2 ^ j : Nat) : Int) := by
                  have e : ((2 : Int) ^ j) = ((2 ^ j : Nat) : Int) := by simp
                  rw [e]
                  generalize 2 ^ j = q at *
                  unfold wrap64
                  omega
                have hor : bits .or .i64 (x : Int) (wrap64 (2 ^ j)) = ((x + 2 ^ j : Nat) : Int) := by
                  rw [hw, or_nat x (2 ^ j) (by omega) (by omega), nat_join (j + 1) x (2 ^ j) (Nat.mod_eq_zero_of_dvd HDV.out) (Nat.pow_lt_pow_right (by decide) (by omega))]
                have HDX : Hid (2 ^ j ∣ x + 2 ^ j) := hide (Nat.dvd_add HDW.out (Nat.dvd_refl _))
                have HGO : Hid (¬ most < x + 2 ^ j → Lft R (n + 1) (loR most j (x + 2 ^ j) ((digs c).drop (T + (n + 1))))) := hide fun hnb => by
                  have := HL.out
                  unfold Lft at this ⊢
                  rw [this, lo_go _ (by simpa using hnb)]
                  simp only [Bool.toNat_true, Nat.one_mul]
                  exact Prod.ext (by show n + (1 + _) = n + 1 + _; rw [← Nat.add_assoc, ← Nat.add_assoc]) rfl
                have HNO : Hid (most < x + 2 ^ j → R = (n + 1, none)) := hide fun hnb => by
                  have := HL.out
                  unfold Lft at this
                  rw [this, lo_bad _ (by simpa using hnb)]
                clear hcons HL hw
                generalize x + 2 ^ j = y at *
                by_cases hb : most < y
                · have HL2 := hide (HNO.out hb)
                  have hbi : (most : Int) < (y : Int) := by omega
                  go_wp2_with (go_at_call 64; refine HD.out.mono ?_; clear HD; rintro e w' ⟨rfl, h8⟩; have H8 := hide h8; clear h8)
                  refine bodyPost_ret (results_tmp2 rfl _ _ _) rfl ?_
                  rw [HL2.out]
                  exact ⟨rfl, by rw [← Nat.add_assoc]; exact H8.out⟩
                · have HL2 := hide (HGO.out hb)
                  have hbi : ¬ (most : Int) < (y : Int) := by omega
                  go_wp2_with (go_at_call 64; refine HD.out.mono ?_; clear HD; rintro e w' ⟨rfl, h8⟩; have H8 := hide h8; clear h8)
                  go_roundw
                  case rel => exact ⟨j, y, n + 1, rfl, rfl, by omega, by omega, by omega, HDX, hide (by rw [← Nat.add_assoc]; exact H8.out), HL2⟩
                  case measure => simp [intOf] <;> omega
      | false =>
        simp only [Bool.toNat_false] at HD
        by_cases hb : most < t * 2
        · have HL2 : Hid (R = (k + 1, none)) := hide (by have := HL.out; unfold Lft at this; rw [stK_bad (by omega) _ (by rw [Nat.pow_succ, ← HTK.out]; exact hb)] at this; exact this)
          have hbi : (most : Int) < (t : Int) * 2 := by omega
          clear hcons HL
          go_wp2_with (go_at_call 64; refine HD.out.mono ?_; clear HD; rintro e w' ⟨rfl, h8⟩; have H8 := hide h8; clear h8)
          refine bodyPost_ret (results_tmp2 rfl _ _ _) rfl ?_
          rw [HL2.out]
          exact ⟨rfl, by rw [← Nat.add_assoc]; exact H8.out⟩
        · have HL2 : Hid (Lft R (k + 1) (stK most (k + 1) ((digs c).drop (T + (k + 1))))) := hide (by have := HL.out; unfold Lft at this ⊢; rw [this, stK_go (by omega) _ (by rw [Nat.pow_succ, ← HTK.out]; exact hb)]; exact Prod.ext (by show k + (1 + _) = k + 1 + _; rw [← Nat.add_assoc, ← Nat.add_assoc]) rfl)
          have hbi : ¬ (most : Int) < (t : Int) * 2 := by omega
          clear hcons HL
          go_wp2_with (go_at_call 64; refine HD.out.mono ?_; clear HD; rintro e w' ⟨rfl, h8⟩; have H8 := hide h8; clear h8)
          go_roundw
          case rel => exact ⟨k + 1, t * 2, by go_num, by go_num, by omega, hide (by rw [Nat.pow_succ, ← HTK.out]), hide (by rw [← Nat.add_assoc]; exact H8.out), HL2⟩
          case measure => simp [intOf] <;> omega
end Go.Proofs.YtedhohamdbplhaaDoor.B
namespace Go.Proofs.YtedhohamdbplhaaDoor.B
open Go.RowKit
set_option linter.unusedVariables false
set_option linter.unusedSimpArgs false
set_option maxRecDepth 20000

theorem wdigit_any {w0 w : World} {p : Nat} {cv : Value} {c : List Nat} {D : List Bool} (h : WS w0 w p cv c D) (d : Bool) (hD : D.length ≤ 10000000) :
    Calls Tryd.prog 48 #[.pointer (some ⟨p, 0, none⟩), .int .u64 ((d.toNat : Nat) : Int)] w fun e w' => e = .returned (.tuple #[]) ∧ ∃ cv' c', WS w0 w' p cv' c' (D ++ [d]) ∧ TF p w w' := by
  by_cases h8 : D.length % 8 = 0
  · exact wdigit_more h d hD h8
  · rcases h.own.2 with ⟨hv, hz⟩ | ⟨g, cap, cur, rfl, hg0, hgc, hnc, hcm, hcs, htk⟩
    · have := h.wrt.len
      omega
    · have hf : fil D.length = (fil D.length - 1) + 1 := by unfold fil; omega
      exact wdigit_room (m := fil D.length - 1) ⟨h.row, h.own, h.wrt.1, by rw [← hf]; exact h.wrt.2, by unfold fil; omega, h.chg, h.loc g rfl, h.pN⟩ d hD h8
/-- a writer, wherever its bytes lie -/
def WZ (w0 wA w : World) (p : Nat) (D : List Bool) : Prop := (∃ cv c, WS w0 w p cv c D) ∧ TF p wA w
theorem WZ.digit {w0 wA w : World} {p : Nat} {D : List Bool} (h : WZ w0 wA w p D) (d : Bool) (hD : D.length ≤ 10000000) :
    Calls Tryd.prog 48 #[.pointer (some ⟨p, 0, none⟩), .int .u64 ((d.toNat : Nat) : Int)] w fun e w' => e = .returned (.tuple #[]) ∧ WZ w0 wA w' p (D ++ [d]) := by
  obtain ⟨⟨cv, c, hS⟩, hT⟩ := h
  exact (wdigit_any hS d hD).mono fun e w' ⟨h1, cv', c', h2, h3⟩ => ⟨h1, ⟨cv', c', h2⟩, hT.trans h3⟩
theorem log_bit {x : Nat} (h : x ≠ 0) : x.testBit x.log2 = true := by
  have a1 := Nat.log2_self_le h
  have a2 := Nat.lt_log2_self (n := x)
  rw [Nat.testBit_eq_decide_div_mod_eq]
  have : x / 2 ^ x.log2 = 1 := by
    refine Nat.div_eq_of_lt_le (by omega) ?_
    rw [Nat.pow_succ] at a2
    omega
  rw [this]
  rfl
theorem bit_w (x k : Nat) (h : x < 18446744073709551616) : bits .and .u64 ((x : Int) / 2 ^ k) 1 = (((x.testBit k).toNat : Nat) : Int) := by
  have e : ((x : Int) / 2 ^ k) = ((x / 2 ^ k : Nat) : Int) := by simp
  have hl : x / 2 ^ k ≤ x := Nat.div_le_self _ _
  have h1 := u64_and_nat (x / 2 ^ k) 1 (by omega) (by decide)
  rw [e]
  refine h1.trans ?_
  rw [Nat.and_one_is_mod, Nat.toNat_testBit]
def stD (x : Nat) : List Bool := if x = 0 then [] else gam x
set_option maxHeartbeats 2000000 in
theorem wstretch_any {w0 wA w : World} {p : Nat} {D : List Bool} (h : WZ w0 wA w p D) (x : Nat) (hx : x ≤ 65536) (hD : D.length ≤ 9000000) :
    Calls Tryd.prog 50 #[.pointer (some ⟨p, 0, none⟩), .int .i64 (x : Int)] w fun e w' => e = .returned (.tuple #[]) ∧ WZ w0 wA w' p (D ++ stD x) := by
  have HZ := hide h
  clear h
  by_cases h0 : x = 0
  · subst h0
    have HE : Hid (D ++ stD 0 = D) := hide (by simp [stD])
    go_enter Tryd.func50, Tryd.ntmps50
    go_wp2_with fail
    refine bodyPost_ret (results_none rfl _ _ _) rfl ?_
    exact ⟨rfl, by rw [HE.out]; exact HZ.out⟩
  · have h0i : ((x : Int) == 0) = false := by simpa using h0
    have HL := hide fun W => len_any W x (by omega) hx
    have hl16 : x.log2 ≤ 16 := pow_small (Nat.log2_self_le h0) hx
    have hlb : x.testBit x.log2 = true := log_bit h0
    have HE : Hid (∀ E : List Bool, E = D ++ List.replicate x.log2 false ++ gamL (x.log2 + 1) x → D ++ stD x = E) := hide fun E hE => by
      rw [hE, stD, if_neg h0, gam, gamL, hlb, List.append_assoc]
    obtain ⟨L, hL⟩ : ∃ L, x.log2 = L := ⟨_, rfl⟩
    rw [hL] at HL hl16 HE
    have HBT := hide fun k => bit_w x k (by omega)
    clear hL hlb
    go_enter Tryd.func50, Tryd.ntmps50
    go_wp2_with (go_at_call 61; refine (HL.out _).mono ?_; rintro e w1 ⟨rfl, hw⟩; have hw2 := hw.symm; clear hw; subst hw2)
    clear HL
    go_loopw [13] (fun y wr => ∃ i : Nat, i ≤ L ∧ y = .int .i64 (i : Int) ∧ Hid (WZ w0 wA wr p (D ++ List.replicate i false))) (fun y _ => L - (intOf y).toNat)
    case atStart => exact ⟨0, Nat.zero_le _, rfl, hide (by simpa using HZ.out)⟩
    case round =>
      obtain ⟨i, hi, rfl, HW⟩ := hrel
      clear HZ
      by_cases hlt : i < L
      · have hli : (i : Int) < (L : Int) := by omega
        have HD := hide (HW.out.digit false (by simp; omega))
        simp only [Bool.toNat_false] at HD
        have HN : Hid (∀ W, WZ w0 wA W p (D ++ List.replicate i false ++ [false]) → WZ w0 wA W p (D ++ List.replicate (i + 1) false)) := hide fun W h => by
          rw [List.replicate_succ', ← List.append_assoc]
          exact h
        go_wp2_with (go_at_call 48; refine HD.out.mono ?_; clear HD; rintro e w2 ⟨rfl, h2⟩; have H2 := hide (HN.out _ h2); clear h2)
        go_roundw
        case rel => exact ⟨i + 1, by omega, by go_num, H2⟩
        case measure => simp [intOf]; omega
      · have hli : ¬ (i : Int) < (L : Int) := by omega
        obtain rfl : i = L := by omega
        go_wp2_with fail
        go_loopw [5] (fun y wr => ∃ (j : Nat) (E : List Bool), j ≤ i + 1 ∧ y = .int .i64 ((j : Int) - 1) ∧ E.length ≤ 9000050 - j ∧ Hid (WZ w0 wA wr p E) ∧ Hid (E ++ gamL j x = D ++ List.replicate i false ++ gamL (i + 1) x)) (fun y _ => (intOf y + 1).toNat)
        case atStart => exact ⟨i + 1, D ++ List.replicate i false, Nat.le_refl _, by go_num, by simp; omega, HW, hide rfl⟩
        case round =>
          obtain ⟨j, E, hj, rfl, hEl, HV, HG⟩ := hrel
          clear HW
          cases j with
          | zero =>
            have hge : ¬ (0 : Int) ≤ ((0 : Nat) : Int) - 1 := by omega
            have HF : Hid (D ++ stD x = E) := hide (HE.out E (by have := HG.out; rwa [gamL, List.append_nil] at this))
            clear HE HG
            go_wp2_with fail
            go_end0
            exact ⟨rfl, by rw [HF.out]; exact HV.out⟩
          | succ j =>
            have ej : (((j + 1 : Nat) : Int) - 1) = (j : Int) := by omega
            rw [ej]
            have HD := hide (HV.out.digit (x.testBit j) (by omega))
            have hbt := HBT.out j
            have HG2 : Hid ((E ++ [x.testBit j]) ++ gamL j x = D ++ List.replicate i false ++ gamL (i + 1) x) := hide (by rw [← HG.out, gamL]; simp)
            generalize x.testBit j = d at *
            clear HG
            go_wp2_with (go_at_call 48; refine HD.out.mono ?_; clear HD; rintro e w2 ⟨rfl, h2⟩; have H2 := hide h2; clear h2)
            go_roundw
            case rel => exact ⟨j, E ++ [d], by omega, rfl, by simp; omega, H2, HG2⟩
            case measure => simp [intOf] <;> omega
end Go.Proofs.YtedhohamdbplhaaDoor.B
namespace Go.Proofs.YtedhohamdbplhaaDoor.B
open Go.RowKit Go.Shelf
attribute [local go_sem] Oper.semAt_some
set_option linter.unusedVariables false
set_option linter.unusedSimpArgs false
set_option maxRecDepth 20000

theorem BRep.uniq {w : World} {L : BL} {n B B' : Nat} (h : BRep w L n B) (h' : BRep w L n B') : B = B' := by
  have hlen : ∀ {B : Nat}, BRep w L n B → B < 2 ^ (64 * nW n) := fun h => Nat.lt_of_lt_of_le h.hB (Nat.pow_le_pow_right (by decide) (by unfold nW; omega))
  refine wd_ext (m := nW n) (fun k hk => ?_) (hlen h) (hlen h')
  have e := (h.cl hk).symm.trans (h'.cl hk)
  simp only [Option.some.injEq, Value.int.injEq, true_and] at e
  omega

theorem Runs_any (w : World) (L : BL) :
    Calls Tryd.prog 49 #[PB L] w fun r w' => r = .returned (.func (.func 58) #[] #[.pointer (some ⟨w.heap.size, 0, none⟩)]) ∧ w' = w.alloc (.cells #[PB L] 112) := by
  unfold PB
  go_enter Tryd.func49, Tryd.ntmps49
  go_wp2
  go_ret
  exact ⟨rfl, rfl⟩

/-- a run: where it begins, where it ends -/
def rnEnc (x : Nat × Nat) : Array Value := #[.int .i64 (x.1 : Int), .int .i64 ((x.2 : Int) - (x.1 : Int))]
def rnStep (L : BL) (n : Nat) (s : Nat) (x : Nat × Nat) (s' : Nat) (W : World) : Prop := ∃ B, BRep W L n B ∧ nx B n s = some x.1 ∧ x.2 = (nc B n x.1).getD n ∧ s' = x.2
def rnEnd (L : BL) (n : Nat) (s : Nat) (W : World) : Prop := ∃ B, BRep W L n B ∧ nx B n s = none
def rnInv (L : BL) (n b : Nat) (s : Nat) (W : World) : Prop := (∃ B, BRep W L n B) ∧ TabAt W ∧ W.cell? ⟨b, 0, none⟩ = some (PB L)
theorem run_ends {B n s i : Nat} (hs : s ≤ n) (h : nx B n s = some i) : s ≤ i ∧ i < (nc B n i).getD n ∧ (nc B n i).getD n ≤ n := by
  obtain ⟨h1, h2, h3, h4⟩ := fnd_is _ _ _ h
  cases hc : nc B n i with
  | none => simp only [Option.getD]; omega
  | some e =>
    obtain ⟨k1, k2, k3, k4⟩ := fnd_is _ _ _ hc
    simp only [Option.getD]
    refine ⟨h1, ?_, by omega⟩
    rcases Nat.lt_or_ge i e with hh | hh
    · exact hh
    · have : e = i := by omega
      rw [this, h3] at k3
      simp at k3

set_option maxHeartbeats 1000000 in
theorem runs_seq (m b : Nat) (L : BL) (n : Nat) :
    SeqSt Fence.wide m Tryd.prog 58 #[.pointer (some ⟨b, 0, none⟩)] rnEnc (rnStep L n) (rnEnd L n) (rnInv L n b) 0 := by
  intro l J Jx W hInv hJ hJx hY h0
  refine callsIn_of_wp Tryd.func58 rfl trivial ?_ rfl
  simp only [Tryd.ntmps58, List.size_toArray, List.length_cons, List.length_nil, Nat.reduceAdd, Nat.reduceSub, Array.replicate_succ, Array.replicate_zero, List.push_toArray, List.append_toArray, List.nil_append, List.cons_append]
  gi_wp2
  gi_loopw [3] (fun p wr => ∃ s : Nat, p = .int .i64 (s : Int) ∧ s ≤ n ∧ J s wr) (fun p wr => n - (intOf p).toNat)
  case atStart => exact ⟨0, rfl, Nat.zero_le _, h0⟩
  case round =>
    obtain ⟨s, rfl, hs, hj⟩ := hrel
    obtain ⟨⟨B, hR⟩, hT, hc⟩ := hInv s wr hj
    have hn := hR.n2
    have hN := Next_any hR hT (s : Int)
    rw [Int.toNat_natCast] at hN
    cases hx : nx B n s with
    | none =>
      rw [hx] at hN
      have HE : Hid (rnEnd L n s wr) := hide ⟨B, hR, hx⟩
      have HN := hide hN
      have HJ := hide hj
      simp only [orN] at HN
      clear hN hx hR hT hY hInv h0 hj
      unfold PB at *
      gi_wp2_with ((refine ⟨trivial, fun h => by simp [Fence.wide] at h, ?_⟩; gi_at_call 59; refine (callsIn_wide.2 HN.out).mono ?_; rintro e w' ⟨rfl, rfl⟩))
      refine bodyPost_ret (results_none rfl _ _ _) rfl ?_
      exact ⟨⟨_, rfl⟩, .inl ⟨s, HE.out, HJ.out⟩⟩
    | some i =>
      rw [hx] at hN
      obtain ⟨r1, r2, r3⟩ := run_ends hs hx
      have hE := endOfRun_any hR hT i
      have hYs := hY s (i, (nc B n i).getD n) _ wr hj ⟨B, hR, hx, rfl, rfl⟩
      generalize (nc B n i).getD n = en at *
      have HN := hide hN
      have HE := hide hE
      simp only [orN] at HN
      obtain ⟨fn, tmps, assign, body, hy, hR2⟩ := hYs
      simp only [rnEnc] at hy
      have HY := hide hY
      have HI := hide hInv
      clear hN hE hx hR hT hY hInv h0 hj
      unfold PB at *
      gi_wp2_with (first
        | (refine ⟨trivial, fun h => by simp [Fence.wide] at h, ?_⟩; gi_at_call 59; refine (callsIn_wide.2 HN.out).mono ?_; rintro e w' ⟨rfl, rfl⟩)
        | (refine ⟨trivial, fun h => by simp [Fence.wide] at h, ?_⟩; gi_at_call 60; refine (callsIn_wide.2 HE.out).mono ?_; rintro e w' ⟨rfl, rfl⟩))
      refine ⟨fun h => by simp [Fence.wide] at h, hR2.mono ?_⟩
      rintro r W3 (⟨rfl, hJ3⟩ | ⟨rfl, hJx3⟩)
      · gi_wp2
        go_roundw
        case rel => exact ⟨en, rfl, r3, hJ3⟩
        case measure => simp [intOf]; omega
      · gi_wp2
        refine bodyPost_ret (results_none rfl _ _ _) rfl ?_
        exact ⟨⟨_, rfl⟩, .inr hJx3⟩
end Go.Proofs.YtedhohamdbplhaaDoor.B
namespace Go.Proofs.YtedhohamdbplhaaDoor.B
open Go.RowKit Go.Shelf
set_option linter.unusedVariables false
set_option linter.unusedSimpArgs false
set_option maxRecDepth 20000

theorem below_drewN {B : Nat} {a w : World} (h : Below B a w) : ∀ n, Below B a (w.drewN n)
  | 0 => h
  | n + 1 => (below_drewN h n).drew

/-- nothing but the tape's place has turned -/
def Qt (w w' : World) : Prop := w'.heap = w.heap ∧ Below w.heap.size w w'
theorem Qt.refl (w : World) : Qt w w := ⟨rfl, Below.refl _ _⟩
theorem Qt.drewN {w w1 : World} (h : Qt w w1) : ∀ n, Qt w (w1.drewN n)
  | 0 => h
  | n + 1 => ⟨(Qt.drewN h n).1, (Qt.drewN h n).2.drew⟩
theorem ret_bool {a b : Bool} (h : a = b) : Ending.returned (.bool a) = .returned (.bool b) := by rw [h]

theorem take_eq_iff {l1 l2 : List Nat} (h : l1.length = l2.length) : l1 = l2 ↔ ∀ i, i < l1.length → l1.getD i 0 = l2.getD i 0 := by
  constructor
  · rintro rfl i _; rfl
  · intro hh
    apply List.ext_getElem h
    intro i h1 h2
    have := hh i h1
    simpa [List.getD, h1, h2] using this

end Go.Proofs.YtedhohamdbplhaaDoor.B
namespace Go.Proofs.YtedhohamdbplhaaDoor.B
open Go.RowKit Go.Shelf
set_option linter.unusedVariables false
set_option linter.unusedSimpArgs false
set_option maxRecDepth 20000

/-- may the words stand as the lower level of n bits? -/
def canB (n : Int) (l : List Nat) : Bool := decide (1 ≤ n ∧ n ≤ 65536 ∧ cwErr n.toNat l = 0)

/-- what lies behind the end of a list that is handed in -/
def behindN : Nat := 13835058055282163719
def cpRow (len : Nat) (f : Nat → Nat) : Array Value := wrow ((List.range len).map f)
theorem cpRow_size (len : Nat) (f : Nat → Nat) : (cpRow len f).size = len := by simp [cpRow, wrow_size]
theorem cpRow_get {len i : Nat} (f : Nat → Nat) (h : i < len) : (cpRow len f)[i]? = some (.int .u64 (f i : Nat)) := by
  unfold cpRow
  rw [wrow_get (by simpa using h)]
  simp [List.getD, h]
theorem cpRow_congr {len : Nat} {f g : Nat → Nat} (h : ∀ i, i < len → f i = g i) : cpRow len f = cpRow len g := by
  unfold cpRow
  congr 1
  exact List.map_congr_left fun i hi => h i (List.mem_range.1 hi)
theorem cpRow_set {len k x : Nat} {f g : Nat → Nat} (hk : k < len) (h1 : g k = x) (h2 : ∀ i, i < len → i ≠ k → g i = f i) : (cpRow len f).setIfInBounds k (.int .u64 (x : Int)) = cpRow len g := by
  apply Array.ext_getElem?
  intro i
  by_cases hi : i < len
  · by_cases e : i = k
    · subst e
      rw [Array.getElem?_setIfInBounds_self_of_lt (by rw [cpRow_size]; exact hi), cpRow_get g hi, h1]
    · rw [Array.getElem?_setIfInBounds_ne (by omega), cpRow_get f hi, cpRow_get g hi, h2 i hi e]
  · rw [Array.getElem?_eq_none (by simp [cpRow_size]; omega), Array.getElem?_eq_none (by simp [cpRow_size]; omega)]
theorem cpRow_zero (len : Nat) : wrow (wds 0 len) = cpRow len fun _ => 0 := by
  unfold cpRow wds
  congr 1
  exact List.map_congr_left fun i _ => wd_zero

/-- what 'copied' gives: nil, or new memory with marks behind its end -/
def Cp (N : Nat) (w : World) (v : Value) (l : List Nat) : Prop :=
  (v = .slice none 0 0 ∧ l = []) ∨ ∃ g, v = .slice (some ⟨g, 0, none⟩) l.length (l.length + 3) ∧ N ≤ g ∧ w.heap[g]? = some (.cells (cpRow (l.length + 3) fun i => if i < l.length then l.getD i 0 else behindN) 30 (0, 0))
theorem Cp.wsl {N : Nat} {w : World} {v : Value} {l : List Nat} (h : Cp N w v l) (hl : ∀ b ∈ l, b < 18446744073709551616) (hm : l.length + 3 ≤ maxLen) : WSl w v l := by
  rcases h with ⟨rfl, rfl⟩ | ⟨g, rfl, hN, hg⟩
  · exact ⟨none, 0, rfl, Nat.le_refl _, by unfold maxLen; omega, fun _ => rfl, by simp, by simp⟩
  · refine ⟨_, _, rfl, by omega, hm, by simp, hl, fun _ => ⟨g, 0, rfl, fun i hi => ?_⟩⟩
    rw [Nat.zero_add, cell_of_row _ _ _ _ _ _ hg, cpRow_get _ (by omega), if_pos hi]
theorem Cp.new {N : Nat} {w : World} {v : Value} {l : List Nat} (h : Cp N w v l) : ∀ g, blockOf v = some g → N ≤ g ∧ g < w.heap.size := by
  rcases h with ⟨rfl, rfl⟩ | ⟨g, rfl, hN, hg⟩
  · intro g hg; simp [blockOf] at hg
  · intro g' hg'
    simp only [blockOf, Option.some.injEq] at hg'
    subst hg'
    exact ⟨hN, (Array.getElem?_eq_some_iff.1 hg).1⟩
theorem Cp.keptIf {N : Nat} {w w' : World} {v : Value} {l : List Nat} (h : Cp N w v l) (hk : ∀ g, blockOf v = some g → w'.heap[g]? = w.heap[g]?) : Cp N w' v l := by
  rcases h with ⟨rfl, rfl⟩ | ⟨g, rfl, hN, hg⟩
  · exact .inl ⟨rfl, rfl⟩
  · exact .inr ⟨g, rfl, hN, (hk g rfl).trans hg⟩
theorem Cp.below {N : Nat} {w w' : World} {v : Value} {l : List Nat} (h : Cp N w v l) (hb : Below w.heap.size w w') : Cp N w' v l := h.keptIf fun g hg => hb.block g (h.new g hg).2

end Go.Proofs.YtedhohamdbplhaaDoor.B
namespace Go.Proofs.YtedhohamdbplhaaDoor.B
open Go.RowKit Go.Shelf
set_option linter.unusedVariables false
set_option linter.unusedSimpArgs false
set_option maxRecDepth 20000

def i64ok (n : Int) : Prop := -9223372036854775808 ≤ n ∧ n ≤ 9223372036854775807
structure ActV where
  kind : Int
  a : Int
  b : Int
structure OpV where
  kind : Int
  sec : Bool
  a : Int
  b : Int
  wv : Value
  wl : List Nat
  bv : Value
  bl : List ActV
  av : Value
  al : List ActV
  again : Bool
/-- a list of acts -/
def ASl (w : World) (v : Value) (l : List ActV) : Prop :=
  ∃ a cap, v = .slice a l.length cap ∧ l.length ≤ cap ∧ cap ≤ maxLen ∧ (∀ s ∈ l, i64ok s.kind ∧ i64ok s.a ∧ i64ok s.b) ∧
    (0 < l.length → ∃ b off, a = some ⟨b, off, none⟩ ∧ ∀ i (h : i < l.length), w.cell? ⟨b, off + i * 3, none⟩ = some (.int .i64 l[i].kind) ∧ w.cell? ⟨b, off + i * 3 + 1, none⟩ = some (.int .i64 l[i].a) ∧ w.cell? ⟨b, off + i * 3 + 2, none⟩ = some (.int .i64 l[i].b))
structure OpOk (w : World) (s : OpV) : Prop where
  w1 : WSl w s.wv s.wl
  w2 : s.wl.length ≤ 17592186044416
  b1 : ASl w s.bv s.bl
  a1 : ASl w s.av s.al
  k : i64ok s.kind
  a : i64ok s.a
  b : i64ok s.b
/-- a script -/
def OSl (w : World) (v : Value) (l : List OpV) : Prop :=
  ∃ a cap, v = .slice a l.length cap ∧ l.length ≤ cap ∧ cap ≤ maxLen ∧ (∀ s ∈ l, OpOk w s) ∧
    (0 < l.length → ∃ b off, a = some ⟨b, off, none⟩ ∧ ∀ i (h : i < l.length),
      w.cell? ⟨b, off + i * 8, none⟩ = some (.int .i64 l[i].kind) ∧ w.cell? ⟨b, off + i * 8 + 1, none⟩ = some (.bool l[i].sec) ∧ w.cell? ⟨b, off + i * 8 + 2, none⟩ = some (.int .i64 l[i].a) ∧ w.cell? ⟨b, off + i * 8 + 3, none⟩ = some (.int .i64 l[i].b) ∧
      w.cell? ⟨b, off + i * 8 + 4, none⟩ = some l[i].wv ∧ w.cell? ⟨b, off + i * 8 + 5, none⟩ = some l[i].bv ∧ w.cell? ⟨b, off + i * 8 + 6, none⟩ = some l[i].av ∧ w.cell? ⟨b, off + i * 8 + 7, none⟩ = some (.bool l[i].again))
theorem cell_below {w w' : World} {b o : Nat} {v : Value} (hb : Below w.heap.size w w') (h : w.cell? ⟨b, o, none⟩ = some v) : w'.cell? ⟨b, o, none⟩ = some v := by
  rw [hb.cell (p := ⟨b, o, none⟩) (World.block_lt_of_cell? w _ h)]; exact h
theorem ASl.below {w w' : World} {v : Value} {l : List ActV} (h : ASl w v l) (hb : Below w.heap.size w w') : ASl w' v l := by
  obtain ⟨a, cap, rfl, h1, h2, h4, h5⟩ := h
  refine ⟨a, cap, rfl, h1, h2, h4, fun hp => ?_⟩
  obtain ⟨b, off, rfl, hc⟩ := h5 hp
  refine ⟨b, off, rfl, fun i hi => ?_⟩
  obtain ⟨q1, q2, q3⟩ := hc i hi
  exact ⟨cell_below hb q1, cell_below hb q2, cell_below hb q3⟩
theorem OpOk.below {w w' : World} {s : OpV} (h : OpOk w s) (hb : Below w.heap.size w w') : OpOk w' s := ⟨h.w1.below hb, h.w2, h.b1.below hb, h.a1.below hb, h.k, h.a, h.b⟩
theorem OSl.below {w w' : World} {v : Value} {l : List OpV} (h : OSl w v l) (hb : Below w.heap.size w w') : OSl w' v l := by
  obtain ⟨a, cap, rfl, h1, h2, h4, h5⟩ := h
  refine ⟨a, cap, rfl, h1, h2, fun s hs => (h4 s hs).below hb, fun hp => ?_⟩
  obtain ⟨b, off, rfl, hc⟩ := h5 hp
  refine ⟨b, off, rfl, fun i hi => ?_⟩
  obtain ⟨q1, q2, q3, q4, q5, q6, q7, q8⟩ := hc i hi
  exact ⟨cell_below hb q1, cell_below hb q2, cell_below hb q3, cell_below hb q4, cell_below hb q5, cell_below hb q6, cell_below hb q7, cell_below hb q8⟩

/-- what a call that changes makes of the bits -/
def setO (n B : Nat) (i : Int) : Nat := if 0 ≤ i ∧ i < n then setR B i.toNat (i.toNat + 1) else B
def clrO (n B : Nat) (i : Int) : Nat := if 0 ≤ i ∧ i < n then clrR B i.toNat (i.toNat + 1) else B
def setRO (n B : Nat) (a c : Int) : Nat := if rgErr n a c = 0 then setR B a.toNat (a.toNat + c.toNat) else B
def clrRO (n B : Nat) (a c : Int) : Nat := if rgErr n a c = 0 then clrR B a.toNat (a.toNat + c.toNat) else B
def mrgO (n B : Nat) (l : List Nat) : Nat := if cwErr n l = 0 then B ||| valW l else B
theorem rgErr_zero {n : Nat} {a c : Int} (h : rgErr n a c = 0) : 0 ≤ a ∧ 0 ≤ c ∧ a.toNat + c.toNat ≤ n ∧ a = (a.toNat : Int) ∧ c = (c.toNat : Int) := by
  unfold rgErr at h
  by_cases h1 : c < 0
  · rw [if_pos h1] at h; cases h
  · rw [if_neg h1] at h
    by_cases h2 : a < 0 ∨ (n : Int) < a ∨ (n : Int) - a < c
    · rw [if_pos h2] at h; cases h
    · omega

def Two (e : Ending) : Prop := ∃ x y, e = .returned (.tuple #[x, y])
theorem SetRange_all {w : World} {L : BL} {n B : Nat} (h : BRep w L n B) (a c : Int) : Calls Tryd.prog 66 #[PB L, .int .i64 a, .int .i64 c] w fun e w' => Two e ∧ BRep w' L n (setRO n B a c) ∧ Chg L.U w w' := by
  unfold setRO
  by_cases he : rgErr n a c = 0
  · rw [if_pos he]
    obtain ⟨h1, h2, h3, h4, h5⟩ := rgErr_zero he
    have := SetRange_any h h3
    rw [← h4, ← h5] at this
    exact this.mono fun e w' hp => ⟨⟨_, _, hp.1⟩, hp.2⟩
  · rw [if_neg he]
    exact (SetRange_no h a c he).mono fun e w' hp => ⟨⟨_, _, hp.1⟩, h.below hp.2, Chg.ofBelow hp.2⟩
theorem Merge_all {w : World} {L : BL} {n B : Nat} {v : Value} {l : List Nat} (h : BRep w L n B) (hv : WSl w v l) (hap : ∀ g, blockOf v = some g → ¬ L.U g) : Calls Tryd.prog 57 #[PB L, v] w fun e w' => Two e ∧ BRep w' L n (mrgO n B l) ∧ Chg L.U w w' := by
  unfold mrgO
  by_cases he : cwErr n l = 0
  · rw [if_pos he]
    exact (Merge_any h hv hap he).mono fun e w' hp => ⟨⟨_, _, hp.1⟩, hp.2.1, hp.2.2.1⟩
  · rw [if_neg he]
    exact (Merge_no h hv he).mono fun e w' hp => ⟨⟨_, _, hp.1⟩, by rw [hp.2]; exact h, by rw [hp.2]; exact Chg.refl _ _⟩

def stepO (n B : Nat) (o : OpV) : Nat :=
  if o.kind = 1 then setO n B o.a else if o.kind = 2 then clrO n B o.a else if o.kind = 3 then setRO n B o.a o.b else if o.kind = 4 then clrRO n B o.a o.b else if o.kind = 5 then mrgO n B o.wl else B
def foldO (n B : Nat) (l : List OpV) : Nat := l.foldl (stepO n) B
theorem foldO_take {n B k : Nat} {l : List OpV} (h : k < l.length) : foldO n B (l.take (k + 1)) = stepO n (foldO n B (l.take k)) l[k] := by
  unfold foldO
  rw [List.take_succ_eq_append_getElem h, List.foldl_append]
  rfl

theorem BNewAt.step {w w1 w2 : World} {L : BL} {n B B' : Nat} (h : BNewAt w w1 L n B) (hr : BRep w2 L n B') (hc : Chg L.U w1 w2) : BNewAt w w2 L n B' := ⟨hr, h.2.1.trans (hc.below h.2.1.size h.2.2), h.2.2⟩
theorem BNewAt.below {w w1 w2 : World} {L : BL} {n B : Nat} (h : BNewAt w w1 L n B) (hb : Below w1.heap.size w1 w2) : BNewAt w w2 L n B := ⟨h.1.below hb, h.2.1.trans (hb.mono h.2.1.size), h.2.2⟩
theorem ptrEqNil (W : World) (a : Addr) : (binOp .eql 112 (.pointer (some a)) (.pointer none)).run Tryd.prog W = .ok (.bool false) W := by kernel_rfl
end Go.Proofs.YtedhohamdbplhaaDoor.B
namespace Go.Proofs.YtedhohamdbplhaaDoor.B
open Go.RowKit Go.Shelf
set_option linter.unusedVariables false
set_option linter.unusedSimpArgs false
set_option maxRecDepth 20000

end Go.Proofs.YtedhohamdbplhaaDoor.B
namespace Go.Proofs.YtedhohamdbplhaaDoor.B
open Go.RowKit Go.Shelf
set_option linter.unusedVariables false
set_option linter.unusedSimpArgs false
set_option maxRecDepth 20000

theorem cnt_remove {f g : Nat → Bool} {c : Nat} (hc : f c = true) (hg : ∀ i, g i = (f i && decide (i ≠ c))) : ∀ n, c < n → cnt f n = cnt g n + 1
  | 0, h => by omega
  | n + 1, h => by
    simp only [cnt]
    by_cases e : c = n
    · subst e
      have : cnt f c = cnt g c := cnt_congr c fun i hi => by rw [hg]; have : i ≠ c := by omega
                                                             simp [this]
      rw [this, hc, hg]; simp
    · rw [cnt_remove hc hg n (by omega), hg n]
      have : n ≠ c := by omega
      simp [this]; omega
theorem low_bit {x : Nat} (h0 : x ≠ 0) (hx : x < 18446744073709551616) (i : Nat) : (x &&& (x - 1)).testBit i = (x.testBit i && decide (i ≠ Lib.ctz 64 x)) := by
  obtain ⟨m, hm, hk⟩ := Lib.ctzFrom_spec 64 x (by omega) hx
  have e : Lib.ctz 64 x = Lib.ctzFrom 64 x := by simp [Lib.ctz, h0]
  rw [e]
  generalize Lib.ctzFrom 64 x = c at hm hk
  have hp : 0 < 2 ^ c := Nat.two_pow_pos c
  have e1 : x - 1 = 2 ^ c * (2 * m) + (2 ^ c - 1) := by rw [hm, Nat.mul_add]; omega
  have b1 : ∀ j, (x - 1).testBit j = if j < c then true else (2 * m).testBit (j - c) := fun j => by
    rw [e1, Nat.testBit_two_pow_mul_add _ (by omega), Nat.testBit_two_pow_sub_one]
    by_cases hj : j < c <;> simp [hj]
  have b2 : ∀ j, x.testBit j = if j < c then false else (2 * m + 1).testBit (j - c) := fun j => by
    rw [hm, Nat.mul_comm, Nat.testBit_mul_two_pow]
    by_cases hj : j < c
    · have : ¬ c ≤ j := by omega
      simp [hj, this]
    · have : c ≤ j := by omega
      simp [hj, this]
  rw [Nat.testBit_and, b1, b2]
  by_cases hj : i < c
  · simp [hj]
  · simp only [hj, if_false]
    by_cases ei : i = c
    · subst ei; simp
    · obtain ⟨d, hd⟩ : ∃ d, i - c = d + 1 := ⟨i - c - 1, by omega⟩
      rw [hd, Nat.testBit_succ, Nat.testBit_succ]
      have : (2 * m + 1) / 2 = 2 * m / 2 := by omega
      rw [this]
      simp [ei]
theorem cnt_low {x : Nat} (h0 : x ≠ 0) (hx : x < 18446744073709551616) : cnt x.testBit 64 = cnt (x &&& (x - 1)).testBit 64 + 1 := by
  obtain ⟨h1, h2, h3⟩ := ctz_spec h0 hx
  exact cnt_remove h2 (low_bit h0 hx) 64 h1

/-- the bit that a shift and a mask tell -/
theorem bit_of_shift {B k : Nat} : bits BinOp.and IntKind.u64 (((wd B (k / 64) : Nat) : Int) / 2 ^ (k % 64)) 1 = (((B.testBit k).toNat : Nat) : Int) := by
  have hl : wd B (k / 64) / 2 ^ (k % 64) < 18446744073709551616 := Nat.lt_of_le_of_lt (Nat.div_le_self _ _) (wd_lt _ _)
  have e : ((wd B (k / 64) : Nat) : Int) / 2 ^ (k % 64) = ((wd B (k / 64) / 2 ^ (k % 64) : Nat) : Int) := by rw [Int.natCast_ediv]; simp
  have := u64_and_nat (wd B (k / 64) / 2 ^ (k % 64)) 1 hl (by decide)
  simp only [Int.natCast_one] at this
  rw [e, this, bit_of_wd, Nat.testBit, Nat.and_comm, Nat.shiftRight_eq_div_pow]
  generalize wd B (k / 64) / 2 ^ (k % 64) = y
  rw [Nat.one_and_eq_mod_two]
  rcases Nat.mod_two_eq_zero_or_one y with h | h <;> simp [h]
end Go.Proofs.YtedhohamdbplhaaDoor.B
namespace Go.Proofs.YtedhohamdbplhaaDoor.B
open Go.RowKit Go.Shelf
set_option linter.unusedVariables false
set_option linter.unusedSimpArgs false
set_option maxRecDepth 20000

theorem WSl.parts {w : World} {v : Value} {l : List Nat} (h : WSl w v l) (h0 : 0 < l.length) : ∃ b off cap, v = .slice (some ⟨b, off, none⟩) l.length cap ∧ l.length ≤ cap ∧ cap ≤ 9223372036854775807 ∧ ∀ i, i < l.length → w.cell? ⟨b, off + i, none⟩ = some (.int .u64 (l.getD i 0 : Nat)) := by
  obtain ⟨a, cap, rfl, h1, h2, h3, h4, h5⟩ := h
  obtain ⟨b, off, rfl, hc⟩ := h5 h0
  exact ⟨b, off, cap, rfl, h1, by unfold maxLen at h2; omega, hc⟩

end Go.Proofs.YtedhohamdbplhaaDoor.B
namespace Go.Proofs.YtedhohamdbplhaaDoor.B
open Go.RowKit Go.Shelf
set_option linter.unusedVariables false
set_option linter.unusedSimpArgs false
set_option maxRecDepth 20000

theorem nx_facts {B n a i : Nat} (h : nx B n a = some i) (ha : a ≤ n) : a ≤ i ∧ i < n ∧ B.testBit i = true ∧ ∀ j, a ≤ j → j < i → B.testBit j = false := by
  obtain ⟨h1, h2, h3, h4⟩ := fnd_is _ _ _ h
  exact ⟨h1, by omega, h3, h4⟩
theorem nc_facts {B n a i : Nat} (h : nc B n a = some i) (ha : a ≤ n) : a ≤ i ∧ i < n ∧ B.testBit i = false ∧ ∀ j, a ≤ j → j < i → B.testBit j = true := by
  obtain ⟨h1, h2, h3, h4⟩ := fnd_is _ _ _ h
  exact ⟨h1, by omega, by simpa using h3, fun j hj hj' => by simpa using h4 j hj hj'⟩
theorem nx_no {B n a : Nat} (h : nx B n a = none) : ∀ j, a ≤ j → j < n → B.testBit j = false := fun j h1 h2 => fnd_isNone _ _ h j h1 (by omega)
theorem nc_no {B n a : Nat} (h : nc B n a = none) : ∀ j, a ≤ j → j < n → B.testBit j = true := fun j h1 h2 => by simpa using fnd_isNone _ _ h j h1 (by omega)

end Go.Proofs.YtedhohamdbplhaaDoor.B
namespace Go.Proofs.YtedhohamdbplhaaDoor.B
open Go.RowKit Go.Shelf
attribute [local go_sem] Oper.semAt_some
set_option linter.unusedVariables false
set_option linter.unusedSimpArgs false
set_option maxRecDepth 20000

theorem enters38 : ∀ args w, (callFunc 58 args).run Tryd.prog w = .ok (.enter 58 args) w := enters_of Tryd.func58 (by kernel_rfl) rfl

/-- between two rounds: N, M: where the boxes lie -/
structure TInv (w W : World) (N M : Nat) (L : BL) (n B s t : Nat) : Prop where
  rep : BRep W L n B
  tab : TabAt W
  bel : Below N w W
  b0 : W.heap[N]? = some (.cells #[.int .i64 (n : Int)] 3 (0, 0))
  b1 : W.heap[N + 1]? = some (.cells #[.bool false] 4 (0, 0))
  m0 : W.heap[M]? = some (.cells #[PB L] 112 (0, 0))
  m1 : W.heap[M + 1]? = some (.cells #[PB L] 112 (0, 0))
  m2 : W.heap[M + 1 + 1]? = some (.cells #[.int .i64 (s : Int)] 3 (0, 0))
  m3 : W.heap[M + 1 + 1 + 1]? = some (.cells #[.int .i64 (t : Int)] 3 (0, 0))
theorem TInv.own {w W W' : World} {row : Option Nat} {N M K : Nat} {L : BL} {n B s t : Nat} (h : TInv w W N M L n B s t) (hN : N ≤ K) (h0 : 1 < K) (hg : W.grownBy W' row) (hr : ∀ r, row = some r → K ≤ r ∧ ∃ o : Obj, W.heap[r]? = some o ∧ o.isCells = false) (hNW : N ≤ W.heap.size) : TInv w W' N M L n B s t :=
  ⟨own_rep h.rep hg hr, h.tab.of (hg.block _ h.tab.lt (fun e => by have := (hr _ e.symm).1; omega)), h.bel.grown hg hNW (fun k e => by have := (hr k e).1; omega),
    own_blk h.b0 hg hr, own_blk h.b1 hg hr, own_blk h.m0 hg hr, own_blk h.m1 hg hr, own_blk h.m2 hg hr, own_blk h.m3 hg hr⟩
theorem TInv.below {w W W' : World} {N M : Nat} {L : BL} {n B s t : Nat} (h : TInv w W N M L n B s t) (hb : Below W.heap.size W W') : TInv w W' N M L n B s t := by
  have k : ∀ {b o}, W.heap[b]? = some o → W'.heap[b]? = some o := fun hh => (hb.block _ (Array.getElem?_eq_some_iff.1 hh).1).trans hh
  have hN : N ≤ W.heap.size := Nat.le_of_lt (Array.getElem?_eq_some_iff.1 h.b0).1
  exact ⟨h.rep.below hb, h.tab.below hb, h.bel.trans (hb.mono hN), k h.b0, k h.b1, k h.m0, k h.m1, k h.m2, k h.m3⟩

theorem cnt_gap {B s i e : Nat} (h1 : s ≤ i) (h2 : i ≤ e) (hz : ∀ j, s ≤ j → j < i → B.testBit j = false) (ho : ∀ j, i ≤ j → j < e → B.testBit j = true) : cnt B.testBit e = cnt B.testBit s + (e - i) := by
  obtain ⟨d, rfl⟩ : ∃ d, i = s + d := ⟨i - s, by omega⟩
  obtain ⟨c, rfl⟩ : ∃ c, e = s + d + c := ⟨e - (s + d), by omega⟩
  rw [cnt_add, cnt_add, cnt_zero d (fun j hj => hz _ (by omega) (by omega)), cnt_full c (fun j hj => ho _ (by omega) (by omega))]
  omega
theorem run_all {B n i : Nat} (hi : B.testBit i = true) (hin : i < n) : (∀ j, i ≤ j → j < (nc B n i).getD n → B.testBit j = true) ∧ ((nc B n i).getD n < n → B.testBit ((nc B n i).getD n) = false) := by
  cases hc : nc B n i with
  | none => exact ⟨fun j h1 h2 => nc_no hc j h1 h2, fun h => by simp at h⟩
  | some e =>
    obtain ⟨k1, k2, k3, k4⟩ := nc_facts hc (by omega)
    exact ⟨fun j h1 h2 => k4 j h1 h2, fun _ => k3⟩

/-- the two boxes are written -/
theorem TInv.stored {w W : World} {N M : Nat} {L : BL} {n B s t s' t' : Nat} (h : TInv w W N M L n B s t) (hNM : N + 1 < M) (hU : ∀ b, L.U b → b < M) (hg : 1 < N) {S T : Int} (hS : S = (s' : Int)) (hT : T = (t' : Int)) :
    TInv w ((W.setCell ⟨M + 1 + 1 + 1, 0, none⟩ (.int .i64 T)).setCell ⟨M + 1 + 1, 0, none⟩ (.int .i64 S)) N M L n B s' t' ∧ ∀ K, KeepsFrom K W ((W.setCell ⟨M + 1 + 1 + 1, 0, none⟩ (.int .i64 T)).setCell ⟨M + 1 + 1, 0, none⟩ (.int .i64 S)) := by
  subst hS hT
  have oth : ∀ b, b ≠ M + 1 + 1 → b ≠ M + 1 + 1 + 1 → ((W.setCell ⟨M + 1 + 1 + 1, 0, none⟩ (.int .i64 (t' : Int))).setCell ⟨M + 1 + 1, 0, none⟩ (.int .i64 (s' : Int))).heap[b]? = W.heap[b]? := fun b h1 h2 => by
    rw [Go.heap_setCell_other _ _ _ _ h1, Go.heap_setCell_other _ _ _ _ h2]
  refine ⟨⟨h.rep.kept fun b hu => oth b (by have := hU b hu; omega) (by have := hU b hu; omega), h.tab.of (oth _ (by omega) (by omega)), (h.bel.setCell (p := ⟨M + 1 + 1 + 1, 0, none⟩) (by show N ≤ M + 1 + 1 + 1; omega) _).setCell (p := ⟨M + 1 + 1, 0, none⟩) (by show N ≤ M + 1 + 1; omega) _, ?_, ?_, ?_, ?_, ?_, ?_⟩, fun K => ⟨by simp [World.setCell], fun b o hb ho hc => ?_⟩⟩
  · rw [oth _ (by omega) (by omega)]; exact h.b0
  · rw [oth _ (by omega) (by omega)]; exact h.b1
  · rw [oth _ (by omega) (by omega)]; exact h.m0
  · rw [oth _ (by omega) (by omega)]; exact h.m1
  · rw [Go.heap_setCell_same _ _ 0 _ 3 _ ((Go.heap_setCell_other _ _ _ _ (by show M + 1 + 1 ≠ M + 1 + 1 + 1; omega)).trans h.m2)]; rfl
  · rw [Go.heap_setCell_other _ _ _ _ (by show M + 1 + 1 + 1 ≠ M + 1 + 1; omega), Go.heap_setCell_same _ _ 0 _ 3 _ h.m3]; rfl
  · rw [oth b (fun e => by rw [e, h.m2] at ho; cases ho; simp [Obj.isCells] at hc) (fun e => by rw [e, h.m3] at ho; cases ho; simp [Obj.isCells] at hc)]
    exact ho
theorem fnEqNil (W : World) (f : Nat) (a b : Array Value) : (binOp .eql 122 (.func (.func f) a b) .nilFunc).run Tryd.prog W = .ok (.bool false) W := by kernel_rfl
end Go.Proofs.YtedhohamdbplhaaDoor.B
namespace Go.Proofs.YtedhohamdbplhaaDoor.B
open Go.RowKit Go.Shelf
set_option linter.unusedVariables false
set_option linter.unusedSimpArgs false
set_option maxRecDepth 20000

theorem WS.below {w0 w w' : World} {p : Nat} {cv : Value} {c : List Nat} {D : List Bool} (h : WS w0 w p cv c D) (hb : Below w.heap.size w w') : WS w0 w' p cv c D := by
  have k : ∀ {b o}, w.heap[b]? = some o → w'.heap[b]? = some o := fun hh => (hb.block _ (Array.getElem?_eq_some_iff.1 hh).1).trans hh
  refine ⟨k h.row, rowK8 h.own fun b e => ?_, h.wrt, ⟨hb.os.trans h.chg.os, hb.tape.trans h.chg.tape, hb.output.trans h.chg.output, Nat.le_trans h.chg.size hb.size, fun b h1 h2 => (hb.block b (Nat.lt_of_lt_of_le h1 h.chg.size)).trans (h.chg.keep b h1 h2)⟩, h.loc, h.pN⟩
  obtain ⟨cs, hcs⟩ := h.blk e
  rw [hcs]
  exact k hcs
/-- a set run ahead: the stretches from s on -/
theorem encP_run {B n s i en : Nat} (h1 : s ≤ i) (h2 : i < en) (h3 : en ≤ n) (hz : ∀ j, s ≤ j → j < i → B.testBit j = false) (ho : ∀ j, i ≤ j → j < en → B.testBit j = true) (hb : en < n → B.testBit en = false) : encP B n s = stD (i - s) ++ (stD (en - i) ++ encP B n en) := by
  have hr2 : ren B n i = en := ren_unique h2 h3 (fun j a b => by rw [ho j a b, ho i (Nat.le_refl _) h2]) (fun h => by rw [hb h, ho i (Nat.le_refl _) h2]; rfl)
  have e2 : encP B n i = stD (en - i) ++ encP B n en := by
    rw [encP_step (by omega), hr2, stD, if_neg (by omega)]
  by_cases hs : s = i
  · subst hs
    rw [e2, Nat.sub_self]
    rfl
  · have hr1 : ren B n s = i := ren_unique (by omega) (by omega) (fun j a b => by rw [hz j a b, hz s (Nat.le_refl _) (by omega)]) (fun h => by rw [ho i (Nat.le_refl _) h2, hz s (Nat.le_refl _) (by omega)]; rfl)
    have e3 : stD (i - s) = gam (i - s) := by rw [stD, if_neg (by omega)]
    rw [encP_step (by omega), hr1, e2, e3]
theorem encP_clear {B n s : Nat} (h1 : s ≤ n) (hz : ∀ j, s ≤ j → j < n → B.testBit j = false) : encP B n s = stD (n - s) := by
  by_cases hs : s < n
  · have hr : ren B n s = n := ren_unique hs (Nat.le_refl _) (fun j a b => by rw [hz j a b, hz s (Nat.le_refl _) hs]) (fun h => by omega)
    rw [encP_step hs, hr, encP_end (by omega), stD, if_neg (by omega), List.append_nil]
  · rw [encP_end hs, stD, if_pos (by omega)]
theorem gam_small {x : Nat} (h : 1 ≤ x) : (gam x).length ≤ 2 * x := by
  rw [gam_len]
  have a1 := Nat.log2_self_le (n := x) (by omega)
  have : x.log2 < 2 ^ x.log2 := Nat.lt_two_pow_self
  omega
theorem stD_small (x : Nat) : (stD x).length ≤ 2 * x := by
  unfold stD
  split
  · simp
  · exact gam_small (by omega)
/-- between two runs: P: the writer; Q: place; Q + 1: what Runs holds -/
structure EI (W2 W : World) (P Q : Nat) (L : BL) (s : Nat) (D : List Bool) : Prop where
  ws : ∃ cv c, WS W2 W P cv c D
  plc : W.heap[Q]? = some (.cells #[.int .i64 (s : Int)] 3 (0, 0))
  clo : W.heap[Q + 1]? = some (.cells #[PB L] 112 (0, 0))
  ne : Q ≠ P ∧ Q + 1 ≠ P
theorem EI.chg {W2 W : World} {P Q s : Nat} {L : BL} {D : List Bool} (h : EI W2 W P Q L s D) : Chg (fun b => b = P) W2 W := by
  obtain ⟨cv, c, hs⟩ := h.ws
  exact hs.chg
theorem EI.own {W2 W W' : World} {row : Option Nat} {P Q s K : Nat} {L : BL} {D : List Bool} (h : EI W2 W P Q L s D) (hK : W2.heap.size ≤ K) (hg : W.grownBy W' row) (hr : ∀ r, row = some r → K ≤ r ∧ ∃ o : Obj, W.heap[r]? = some o ∧ o.isCells = false) : EI W2 W' P Q L s D := by
  obtain ⟨cv, c, hs⟩ := h.ws
  refine ⟨⟨cv, c, own_blk hs.row hg hr, rowK8 hs.own fun b e => ?_, hs.wrt, own_chg hs.chg hK hg hr, hs.loc, hs.pN⟩, own_blk h.plc hg hr, own_blk h.clo hg hr, h.ne⟩
  obtain ⟨cs, hcs⟩ := hs.blk e
  rw [hcs]
  exact own_blk hcs hg hr
theorem EI.wz {W2 W : World} {P Q s : Nat} {L : BL} {D : List Bool} (h : EI W2 W P Q L s D) : WZ W2 W W P D := ⟨h.ws, TF.refl _ _⟩
theorem EI.took {W2 W W' : World} {P Q s : Nat} {L : BL} {D D' : List Bool} (h : EI W2 W P Q L s D) (hz : WZ W2 W W' P D') : EI W2 W' P Q L s D' :=
  ⟨hz.1, hz.2.keep _ _ h.plc h.ne.1 (fun cs fr e => by simp at e), hz.2.keep _ _ h.clo h.ne.2 (fun cs fr e => by simp at e), h.ne⟩
theorem EI.put {W2 W : World} {P Q s s' : Nat} {L : BL} {D : List Bool} (h : EI W2 W P Q L s D) (hQ : W2.heap.size ≤ Q) {X : Int} (hX : X = (s' : Int)) : EI W2 (W.setCell ⟨Q, 0, none⟩ (.int .i64 X)) P Q L s' D := by
  subst hX
  obtain ⟨cv, c, hs⟩ := h.ws
  have hs2 : (W.setCell ⟨Q, 0, none⟩ (.int .i64 (s' : Int))).heap.size = W.heap.size := by simp [World.setCell]
  refine ⟨⟨cv, c, (Go.heap_setCell_other _ _ _ _ (Ne.symm h.ne.1)).trans hs.row, rowK8 hs.own fun b e => Go.heap_setCell_other _ _ _ _ fun e2 => ?_, hs.wrt, ⟨hs.chg.os, hs.chg.tape, hs.chg.output, by rw [hs2]; exact hs.chg.size, fun b hb hne => (Go.heap_setCell_other _ _ _ _ (by show b ≠ Q; omega)).trans (hs.chg.keep b hb hne)⟩, hs.loc, hs.pN⟩, ?_, (Go.heap_setCell_other _ _ _ _ (by show Q + 1 ≠ Q; omega)).trans h.clo, h.ne⟩
  · obtain ⟨cs, hcs⟩ := hs.blk e
    have e3 : b = Q := e2
    rw [e3, h.plc] at hcs
    simp at hcs
  · rw [Go.heap_setCell_same _ _ 0 _ 3 _ h.plc]
    rfl
theorem keeps_TF {p K : Nat} {w w' : World} (h : TF p w w') {cs : Array Value} {t : TypeId} {fr : Nat × Nat} (hp : w.heap[p]? = some (.cells cs t fr)) : KeepsFrom K w w' :=
  ⟨h.size, fun b o _ hb hc => h.keep b o hb (fun e => by subst e; rw [hp] at hb; cases hb; simp [Obj.isCells] at hc) (fun cs fr e => by subst e; simp [Obj.isCells] at hc)⟩
theorem keeps_put {K Q : Nat} {w : World} {v : Value} {cs : Array Value} {t : TypeId} {fr : Nat × Nat} (hp : w.heap[Q]? = some (.cells cs t fr)) : KeepsFrom K w (w.setCell ⟨Q, 0, none⟩ v) :=
  ⟨by simp [World.setCell], fun b o _ hb hc => (Go.heap_setCell_other _ _ _ _ (fun e => by have e : b = Q := e; subst e; rw [hp] at hb; cases hb; simp [Obj.isCells] at hc)).trans hb⟩
theorem wstretch_at {w0 wA w : World} {p : Nat} {D : List Bool} (h : WZ w0 wA w p D) (x : Nat) (hx : x ≤ 65536) (hD : D.length ≤ 9000000) {X : Int} (hX : X = (x : Int)) :
    Calls Tryd.prog 50 #[.pointer (some ⟨p, 0, none⟩), .int .i64 X] w fun e w' => e = .returned (.tuple #[]) ∧ WZ w0 wA w' p (D ++ stD x) := by
  subst hX
  exact wstretch_any h x hx hD
end Go.Proofs.YtedhohamdbplhaaDoor.B
namespace Go.Proofs.YtedhohamdbplhaaDoor.B
open Go.RowKit Go.Shelf
attribute [local go_sem] Oper.semAt_some
set_option linter.unusedVariables false
set_option linter.unusedSimpArgs false
set_option maxRecDepth 20000

theorem low_and (B : Nat) : bits .and .u64 ((wd B 0 : Nat) : Int) 1 = (((B.testBit 0).toNat : Nat) : Int) := by
  have h1 := u64_and_nat (wd B 0) 1 (wd_lt B 0) (by decide)
  refine h1.trans ?_
  rw [Nat.and_one_is_mod]
  have h2 := Nat.toNat_testBit (wd B 0) 0
  rw [testBit_wd] at h2
  rw [Nat.pow_zero, Nat.div_one] at h2
  rw [← h2]
  simp
/-- what Encode hands back -/
def EnP (w : World) (n B : Nat) (e : Ending) (w' : World) : Prop := ∃ cv c, e = .returned (.tuple #[cv, .int .i64 0]) ∧ w'.ownsRow w.heap.size 5 1 cv c.length (c.map byV) ∧ Wrt c (encD B n) ∧ Below w.heap.size w w'
theorem own_high {w : World} {b b' : Nat} {e : TypeId} {size : Nat} {v : Value} {n : Nat} {xs : List Value} (h : w.ownsRow b e size v n xs) (hb : ∀ g, v.ownBlock = some g → b' ≤ g) : w.ownsRow b' e size v n xs := by
  refine ⟨h.1, ?_⟩
  rcases h.2 with h0 | ⟨g, cap, cur, rfl, h1, r⟩
  · exact .inl h0
  · exact .inr ⟨g, cap, cur, rfl, hb g rfl, r⟩
set_option maxHeartbeats 4000000 in
theorem encode_main {w : World} {v : Value} {l : List Nat} (n : Nat) (hT : TabAt w) (hv : WSl w v l) (h1 : 1 ≤ n) (h2 : n ≤ 65536) (he : cwErr n l = 0) :
    Calls Tryd.prog 36 #[.int .i64 (n : Int), v] w (EnP w n (valW l)) := by
  refine (callsIn_wide (n := 5)).1 ?_
  have HF := hide (From_any n h1 h2 hv he)
  generalize valW l = B at *
  obtain ⟨va, vcap, rfl, -⟩ := hv
  have HT := hide hT
  have htl := hT.lt
  have hw0 := low_and B
  have hnw : 1 ≤ nW n ∧ nW n ≤ 1024 := by unfold nW; omega
  clear hT he
  generalize l.length = llen at *
  refine callsIn_of_wp_marks Tryd.func36 rfl trivial ?_ rfl
  simp only [Tryd.ntmps36, List.size_toArray, List.length_cons, List.length_nil, Nat.reduceAdd, Nat.reduceSub, Array.replicate_succ, Array.replicate_zero, List.push_toArray, List.append_toArray, List.nil_append, List.cons_append]
  gi_wp2_with (first
    | (refine ⟨trivial, ?_⟩; gi_at_call 47; refine (callsIn_wide.2 HF.out).mono ?_; clear HF; rintro e w1 ⟨L, rfl, hN⟩; have HN := hide hN; clear hN; unfold PB))
  obtain ⟨W2, hW2⟩ : ∃ W2, (w1.alloc (Obj.cells #[Value.slice none 0 0, Value.int IntKind.i64 0] 117)).alloc (Obj.cells #[Value.pointer (some ⟨w1.heap.size, 0, none⟩)] 115) = W2 := ⟨_, rfl⟩
  rw [hW2]
  obtain ⟨P, hP⟩ : ∃ P, w1.heap.size = P := ⟨_, rfl⟩
  have hsz : W2.heap.size = P + 2 := by rw [← hW2, ← hP]; simp
  have hb12 : Below w1.heap.size w1 W2 := by rw [← hW2]; exact ((Below.refl _ _).alloc (Nat.le_refl _) _).alloc (by simp) _
  have q0 : W2.heap[P]? = some (.cells #[.slice none 0 0, .int .i64 0] 117 (0, 0)) := by rw [← hW2, ← hP, Below.heap_alloc _ _ _ (by simp)]; exact Go.heap_alloc_new w1 _
  have q1 : W2.heap[P + 1]? = some (.cells #[.pointer (some ⟨P, 0, none⟩)] 115 (0, 0)) := by rw [← hW2, ← hP]; have := Go.heap_alloc_new (w1.alloc (Obj.cells #[Value.slice none 0 0, Value.int IntKind.i64 0] 117)) (Obj.cells #[Value.pointer (some ⟨w1.heap.size, 0, none⟩)] 115); rwa [World.size_alloc] at this
  have hrep2 : BRep W2 L n B := HN.out.1.below hb12
  have hbel2 : Below w.heap.size w W2 := HN.out.2.1.trans (hb12.mono HN.out.2.1.size)
  have htab2 : TabAt W2 := HT.out.below hbel2
  have hPw : w.heap.size ≤ P := by rw [← hP]; exact HN.out.2.1.size
  have hLP : ∀ b, L.U b → b < P := fun b hb => by rw [← hP]; exact HN.out.1.uLt b hb
  have HDG : Hid (∀ q, Calls Tryd.prog 48 #[.pointer (some ⟨P, 0, none⟩), .int .u64 (((B.testBit 0).toNat : Nat) : Int)] (W2.drewN q) fun e w' => e = .returned (.tuple #[]) ∧ WZ W2 W2 w' P ([] ++ [B.testBit 0])) := hide fun q => WZ.digit (wA := W2) (w := W2.drewN q) ⟨⟨.slice none 0 0, [], (⟨q0, ⟨rfl, .inl ⟨rfl, rfl⟩⟩, wrt_nil, Chg.refl _ _, (fun b e => by simp [Value.ownBlock] at e), by omega⟩ : WS W2 W2 P (.slice none 0 0) [] []).below ⟨rfl, rfl, rfl, Nat.le_refl _, fun _ _ => rfl⟩⟩, ⟨rfl, rfl, rfl, Nat.le_refl _, fun _ _ h _ _ => h⟩⟩ (B.testBit 0) (by simp)
  have HS3 : Hid (∀ w', WZ W2 W2 w' P ([] ++ [B.testBit 0]) → w'.cell? ⟨P + 1, 0, none⟩ = some (.pointer (some ⟨P, 0, none⟩)) ∧ w'.cell? ⟨L.p, 1, none⟩ = some (.slice (some ⟨L.lo, 0, none⟩) (nW n) (nW n)) ∧ w'.cell? ⟨L.lo, 0, none⟩ = some (.int .u64 (wd B 0 : Nat))) := hide fun w' hz => by
    have hr : BRep w' L n B := by
      refine hrep2.kept fun b hb => ?_
      obtain ⟨cv, c, hs⟩ := hz.1
      have := hLP b hb
      exact hs.chg.keep b (by omega) (by omega)
    refine ⟨?_, hr.c1, hr.cl (k := 0) (by omega)⟩
    rw [cell_of_row _ _ _ _ _ _ (hz.2.keep _ _ q1 (by omega) (fun cs fr e => by simp at e))]
    rfl
  rw [hP]
  clear hW2 HN HT hb12 hP
  have c1 : W2.cell? ⟨P + 1, 0, none⟩ = some (.pointer (some ⟨P, 0, none⟩)) := by rw [cell_of_row _ _ _ _ _ _ q1]; rfl
  have c2 := hrep2.c1
  have c3 := hrep2.cl (k := 0) (by omega)
  refine wpIn_wide.2 ?_
  have HREP := hide hrep2
  have HBEL := hide hbel2
  have HTAB := hide htab2
  have HQ0 := hide q0
  have HQ1 := hide q1
  clear hrep2 hbel2 htab2 q0 q1
  generalize hdv : B.testBit 0 = dv at *
  generalize hx : wd B 0 = x at *
  clear hx
  generalize nW n = m1 at *
  have hm0 : (0 : Int) < (m1 : Int) := by omega
  have hm1 : 0 < m1 := by omega
  go_region_held3 (fun w' => w'.cell? ⟨P + 1, 0, none⟩ = some (.pointer (some ⟨P, 0, none⟩)) ∧ w'.cell? ⟨L.p, 1, none⟩ = some (.slice (some ⟨L.lo, 0, none⟩) m1 m1) ∧ w'.cell? ⟨L.lo, 0, none⟩ = some (.int .u64 (x : Int))) (first | assumption | (refine ⟨?_, ?_, ?_⟩ <;> assumption) | go_keep)
    (first | (go_at_call 48; refine (HDG.out 1).mono ?_; clear HDG; rintro e w3 ⟨rfl, h3⟩; obtain ⟨s1, s2, s3⟩ := HS3.out _ h3; have H3 := hide h3; clear h3 HS3))
  clear c1 c2 c3 s2 s3 hw0 hm0 hm1 hnw
  gi_wp2_with (refine ⟨trivial, ?_⟩; gi_at_call 49; refine (callsIn_wide.2 (Runs_any _ L)).mono ?_; rintro e w' ⟨rfl, rfl⟩)
  obtain ⟨W0, hW0⟩ : ∃ W0, (w3.alloc (Obj.cells #[Value.int IntKind.i64 0] 3)).alloc (Obj.cells #[PB L] 112) = W0 := ⟨_, rfl⟩
  rw [hW0]
  obtain ⟨Q, hQ⟩ : ∃ Q, w3.heap.size = Q := ⟨_, rfl⟩
  have hs0 : W0.heap.size = Q + 2 := by rw [← hW0, ← hQ]; simp
  have hQ2 : W2.heap.size ≤ Q := by rw [← hQ]; exact H3.out.2.size
  have START : EI W2 W0 P Q L 0 [dv] := by
    have hbw : Below w3.heap.size w3 W0 := by rw [← hW0]; exact ((Below.refl _ _).alloc (Nat.le_refl _) _).alloc (by simp) _
    obtain ⟨cv, c, hws⟩ := H3.out.1
    refine ⟨⟨cv, c, by simpa using hws.below hbw⟩, ?_, ?_, by omega⟩
    · rw [← hW0, ← hQ, Below.heap_alloc _ _ _ (by simp)]; exact Go.heap_alloc_new w3 _
    · rw [← hW0, ← hQ]; have := Go.heap_alloc_new (w3.alloc (Obj.cells #[Value.int IntKind.i64 0] 3)) (Obj.cells #[PB L] 112); rwa [World.size_alloc] at this
  have HRP : Hid (∀ W s D, EI W2 W P Q L s D → BRep W L n B ∧ TabAt W ∧ Below w.heap.size w W ∧ W.cell? ⟨P + 1, 0, none⟩ = some (.pointer (some ⟨P, 0, none⟩)) ∧ W.cell? ⟨Q + 1, 0, none⟩ = some (PB L) ∧ W.cell? ⟨Q, 0, none⟩ = some (.int .i64 (s : Int)) ∧ W.frozen? ⟨Q, 0, none⟩ = false) := hide fun W s D h => by
    have hc := h.chg
    refine ⟨HREP.out.kept fun b hb => hc.keep b (by have := hLP b hb; omega) (by have := hLP b hb; omega), HTAB.out.of (hc.keep _ (by omega) (by omega)), HBEL.out.trans (hc.below (by omega) fun b e => by omega), ?_, ?_, ?_, frozen_of_row _ _ _ _ _ h.plc⟩
    · rw [cell_of_row _ _ _ _ _ _ ((hc.keep (P + 1) (by omega) (by omega)).trans HQ1.out)]; rfl
    · rw [cell_of_row _ _ _ _ _ _ h.clo]; rfl
    · rw [cell_of_row _ _ _ _ _ _ h.plc]; rfl
  have HENC : Hid ([dv] ++ encP B n 0 = encD B n) := hide (by rw [encD, hdv]; rfl)
  rw [hQ]
  clear hW0 H3 hQ s1 HREP HTAB HBEL HQ0 HQ1
  refine wpIn_range_st rfl (by decide) (gf := 58) (lb := #[.pointer (some ⟨Q + 1, 0, none⟩)]) rfl trivial enters38
    (runs_seq _ (Q + 1) L n) (fun _ => rfl)
    (fun s W => s ≤ n ∧ (0 < s → s < n → B.testBit s = false) ∧ ∃ D, EI W2 W P Q L s D ∧ D ++ encP B n s = encD B n ∧ D.length ≤ 2 * s + 1)
    (fun _ _ => False)
    (fun s A B' row hs hg hr => ⟨hs.1, hs.2.1, by obtain ⟨D, e1, e2⟩ := hs.2.2; exact ⟨D, e1.own (by omega) hg hr, e2⟩⟩)
    (fun _ _ _ _ _ hs _ _ => hs)
    (fun s W hs => by obtain ⟨D, e1, e2⟩ := hs.2.2; obtain ⟨r1, r2, r3, r4, r5, r6⟩ := HRP.out W s D e1; exact ⟨⟨B, r1⟩, r2, r5⟩)
    (fun s x s' => fun _ A B' row hs hg hr => by obtain ⟨B2, e1, e2, e3, e4⟩ := hs; exact ⟨B2, own_rep e1 hg hr, e2, e3, e4⟩) (fun s A B' row hs hg hr => by obtain ⟨B2, e1, e2⟩ := hs; exact ⟨B2, own_rep e1 hg hr, e2⟩)
    ⟨Nat.zero_le _, fun h => by omega, [dv], START, HENC.out, by simp⟩
    ?a1 ?assign ?body ?done ?stop
  case assign =>
    intro l x W K hK
    simp only [rnEnc]
    gi_wp2
    exact hK
  case body =>
    rintro l s x s' W hl1 hl2 ⟨hs1, hs2, D, hI, hD1, hD2⟩ ⟨B', hR, hx1, hx2, rfl⟩
    obtain ⟨r1, r2, r3, k1, k2, k3, f3⟩ := HRP.out W s D hI
    obtain rfl := r1.uniq hR
    obtain ⟨i, en⟩ := x
    dsimp only at hx1 hx2 ⊢
    obtain ⟨u1, u2, u3⟩ := run_ends hs1 hx1
    obtain ⟨g1, g2, g3, g4⟩ := nx_facts hx1 hs1
    obtain ⟨a1, a2⟩ := run_all g3 g2
    rw [← hx2] at u2 u3 a1 a2
    have hrun := encP_run (n := n) g1 u2 u3 g4 a1 a2
    have HI := hide hI
    have hl1' := stD_small (i - s)
    have hl2' := stD_small (en - i)
    have HST1 := hide (wstretch_at hI.wz (i - s) (by omega) (by omega) (X := (i : Int) - (s : Int)) (by omega))
    have HNEW : Hid ((D ++ stD (i - s) ++ stD (en - i)) ++ encP B n en = encD B n ∧ (D ++ stD (i - s) ++ stD (en - i)).length ≤ 2 * en + 1) := hide ⟨by rw [← hD1, hrun]; simp, by simp; omega⟩
    have HA2 := hide a2
    have HL1 : Hid ((D ++ stD (i - s)).length ≤ 9000000) := hide (by simp; omega)
    clear START hrun hI hR g3 g4 hx1 hx2 hs2 a1 a2 hD1 hD2 r1 r2 r3 HENC
    gi_wp2_with (first
      | (refine ⟨trivial, ?_⟩; gi_at_call 50; refine (CallsIn.inRound l (callsIn_wide.2 HST1.out)).mono ?_; clear HST1; rintro e w4 ⟨rfl, h4⟩; have HI4 := hide (HI.out.took h4); have HK4 := hide h4.2; have HST2 := hide (wstretch_at HI4.out.wz (en - i) (by omega) HL1.out (X := (en : Int) - (i : Int)) (by omega)); obtain ⟨-, -, -, k1a, -⟩ := HRP.out w4 s _ HI4.out; clear h4)
      | (refine ⟨trivial, ?_⟩; gi_at_call 50; refine (CallsIn.inRound l (callsIn_wide.2 HST2.out)).mono ?_; clear HST2; rintro e w5 ⟨rfl, h5⟩; have HI5 := hide (HI4.out.took h5); have HK5 := hide h5.2; obtain ⟨-, -, -, k1b, -, k3b, f3b⟩ := HRP.out w5 s _ HI5.out; clear h5))
    obtain ⟨cv0, cc0, hws0⟩ := HI.out.ws
    obtain ⟨cv4, cc4, hws4⟩ := HI4.out.ws
    exact ⟨((keeps_TF HK4.out hws0.row).trans (keeps_TF HK5.out hws4.row)).trans (keeps_put HI5.out.plc), u3, fun _ h => HA2.out h, _, HI5.out.put hQ2 (by omega), HNEW.out⟩
  case done =>
    rintro DD s W hDD ⟨B', hR, hx⟩ ⟨hs1, hs2, D, hI, hD1, hD2⟩ hK
    obtain ⟨r1, r2, r3, k1, k2, k3, f3⟩ := HRP.out W s D hI
    obtain rfl := r1.uniq hR
    have z := nx_no hx
    have henc := encP_clear hs1 z
    have HI := hide hI
    have HKD := hide hK
    have HST1 := hide (wstretch_at hI.wz (n - s) (by omega) (by omega) (X := (n : Int) - (s : Int)) (by omega))
    have HFULL : Hid (D ++ stD (n - s) = encD B n) := hide (by rw [← hD1, henc])
    clear START hI hR hx z hK hs2 henc hD1 r1 r2 r3 HENC
    gi_wp2_with (refine ⟨trivial, ?_⟩; gi_at_call 50; refine (callsIn_wide.2 HST1.out).mono ?_; clear HST1; rintro e w4 ⟨rfl, h4⟩; have HI4 := hide (HI.out.took h4); have HK4 := hide h4.2; obtain ⟨-, -, hb4, k1a, -⟩ := HRP.out w4 s _ HI4.out; have HB4 := hide hb4; obtain ⟨cv4, cc4, hws4⟩ := HI4.out.ws; have HW4 := hide hws4; have kc : w4.cell? ⟨P, 0, none⟩ = some cv4 := cell_of_row _ _ _ _ _ _ hws4.row; clear h4 hb4 hws4)
    have hkd : w4.heap[DD]? = some (.deferred (some [])) := HK4.out.keep _ _ HKD.out (by omega) (fun cs fr e => by simp at e)
    have hg : w4.grownBy (w4.putObj DD (.deferred none)) (some DD) := grownBy_putObj' w4 DD _
    have hown : (w4.putObj DD (.deferred none)).ownsRow w.heap.size 5 1 cv4 cc4.length (cc4.map byV) := by
      refine own_high (rowK8 HW4.out.own fun b e => ?_) fun b e => ?_
      · obtain ⟨cs, hcs⟩ := HW4.out.blk e
        rw [hcs]
        exact own_blk (N := W0.heap.size) hcs hg (fun r e => by cases e; exact ⟨hDD, _, hkd, rfl⟩)
      · have := HW4.out.loc b e
        omega
    have hbel : Below w.heap.size w (w4.putObj DD (.deferred none)) := HB4.out.grown hg (by have := HB4.out.size; omega) (fun k e => by cases e; omega)
    refine ⟨by simp, .inl ⟨_, _, rfl, run_takeDeferred hkd, ?_⟩⟩
    refine ⟨_, results_tmp2 rfl _ _ _, ?_⟩
    exact ⟨cv4, cc4, rfl, hown, by rw [← HFULL.out]; exact HW4.out.wrt, hbel⟩
  case stop =>
    rintro D c W hD h hK
    exact h.elim
end Go.Proofs.YtedhohamdbplhaaDoor.B
namespace Go.Proofs.YtedhohamdbplhaaDoor.B
open Go.RowKit
set_option linter.unusedVariables false
set_option linter.unusedSimpArgs false
set_option maxRecDepth 20000

theorem CSl.blk {w : World} {cv : Value} {c : List Nat} (h : CSl w cv c) {w' : World} (hb : Below w.heap.size w w') : CSl w' cv c := by
  obtain ⟨a, cap, rfl, h1, h2, h3, h4⟩ := h
  refine ⟨a, cap, rfl, h1, h2, h3, fun h0 => ?_⟩
  obtain ⟨b, off, rfl, hc⟩ := h4 h0
  exact ⟨b, off, rfl, fun i hi => by rw [World.cell?_of_block (hb.block b (World.block_lt_of_cell? w _ (hc i hi)))]; exact hc i hi⟩
/-- a bitmap that is read, and its reader -/
structure RB (w wr : World) (p : Nat) (cv : Value) (c : List Nat) (T : Nat) (L : BL) (n B : Nat) : Prop where
  rd : RdM wr p cv T
  sl : CSl w cv c
  bm : BRep wr L n B
  bel : Below w.heap.size w wr
  pN : w.heap.size ≤ p
  lN : ∀ b, L.U b → w.heap.size ≤ b ∧ b ≠ p
theorem RB.rs {w wr : World} {p T n B : Nat} {cv : Value} {c : List Nat} {L : BL} (h : RB w wr p cv c T L n B) : RS wr wr p cv c T := ⟨h.rd, h.sl.blk h.bel, Chg.refl _ _⟩
theorem RB.took {w wr w' : World} {p T T' n B : Nat} {cv : Value} {c : List Nat} {L : BL} (h : RB w wr p cv c T L n B) (hs : RS wr w' p cv c T') : RB w w' p cv c T' L n B :=
  ⟨hs.rd, h.sl, h.bm.chg hs.chg fun b hb => (h.lN b hb).2, h.bel.trans (hs.chg.below h.bel.size fun b e => by rw [e]; exact h.pN), h.pN, h.lN⟩
theorem RB.set {w wr w' : World} {p T n B B' : Nat} {cv : Value} {c : List Nat} {L : BL} (h : RB w wr p cv c T L n B) (hb : BRep w' L n B') (hc : Chg L.U wr w') : RB w w' p cv c T L n B' := by
  refine ⟨?_, h.sl, hb, h.bel.trans (hc.below h.bel.size fun b hU => (h.lN b hU).1), h.pN, h.lN⟩
  exact (hc.keep p (Array.getElem?_eq_some_iff.1 h.rd).1 fun hU => (h.lN p hU).2 rfl).trans h.rd
theorem rdR_go {n f p : Nat} {s : Bool} {B : Nat} (hp : p < n) (ds : List Bool) : rdR n (f + 1) p s B ds = bndR (stR (n - p)) (fun x _ => rdR n f (p + x) (!s) (if s then setR B p (p + x) else B)) ds := by
  conv => lhs; unfold rdR
  rw [if_pos hp]
theorem rdR_end {n f p : Nat} {s : Bool} {B : Nat} (hp : ¬ p < n) (ds : List Bool) : rdR n (f + 1) p s B ds = (0, some B) := by
  conv => lhs; unfold rdR
  rw [if_neg hp]
  rfl
theorem st_le {most : Nat} (hm : 1 ≤ most) {ds : List Bool} {c x : Nat} (h : stR most ds = (c, some x)) : 1 ≤ x ∧ x ≤ most := (st_is hm h).2.2
def readR (n : Nat) : Rd Nat := bndR dgR fun d _ => rdR n (n + 1) 0 d 0
/-- what is left to read -/
def Stt (R : Nat × Option Nat) (n : Nat) (ok s : Bool) (pl T B : Nat) (c : List Nat) : Prop := if ok = true then ∃ f, n - pl < f ∧ Lft R T (rdR n f pl s B ((digs c).drop T)) else R = (T, none)
theorem stt_start {n : Nat} (c : List Nat) : Stt (readR n (digs c)) n (dgR (digs c)).2.isSome ((dgR (digs c)).2.getD false) 0 1 0 c := by
  unfold Stt
  cases hd : digs c with
  | nil =>
    rw [if_neg (by simp [dgR])]
    rfl
  | cons d l =>
    rw [if_pos (by rfl)]
    refine ⟨n + 1, by omega, ?_⟩
    unfold Lft readR
    rw [bndR_some (c := 1) (a := d) rfl]
    rfl
theorem stt_go {R : Nat × Option Nat} {n pl T B : Nat} {s : Bool} {c : List Nat} (h : Stt R n true s pl T B c) (hp : pl < n) : (∀ k, stR (n - pl) ((digs c).drop T) = (k, none) → Stt R n false (!s) pl (T + k) B c) ∧ (∀ k x, stR (n - pl) ((digs c).drop T) = (k, some x) → Stt R n true (!s) (pl + x) (T + k) (if s then setR B pl (pl + x) else B) c) := by
  unfold Stt at h
  rw [if_pos rfl] at h
  obtain ⟨f, hf, hL⟩ := h
  obtain ⟨f, rfl⟩ : ∃ g, f = g + 1 := ⟨f - 1, by omega⟩
  unfold Lft at hL
  rw [rdR_go hp] at hL
  refine ⟨fun k hk => ?_, fun k x hk => ?_⟩
  · rw [bndR_none hk] at hL
    unfold Stt
    rw [if_neg (by simp)]
    exact hL
  · rw [bndR_some hk] at hL
    have := (st_le (by omega) hk).1
    unfold Stt
    rw [if_pos rfl]
    refine ⟨f, by omega, ?_⟩
    unfold Lft
    rw [hL, List.drop_drop]
    exact Prod.ext (by show T + (k + _) = T + k + _; omega) rfl
theorem stt_end {R : Nat × Option Nat} {n pl T B : Nat} {s : Bool} {c : List Nat} (h : Stt R n true s pl T B c) (hp : ¬ pl < n) : R = (T, some B) := by
  unfold Stt at h
  rw [if_pos rfl] at h
  obtain ⟨f, hf, hL⟩ := h
  obtain ⟨f, rfl⟩ : ∃ g, f = g + 1 := ⟨f - 1, by omega⟩
  unfold Lft at hL
  rw [rdR_end hp] at hL
  exact hL
set_option maxHeartbeats 2000000 in
theorem read_any {w w1 : World} {p n : Nat} {cv : Value} {c : List Nat} {L : BL} (h : RB w w1 p cv c 0 L n 0) (hc : c.length ≤ 150000000000000) :
    Calls Tryd.prog 52 #[PB L, .pointer (some ⟨p, 0, none⟩)] w1 fun e w' => e = .returned (.bool (readR n (digs c)).2.isSome) ∧ ∃ B, RB w w' p cv c (readR n (digs c)).1 L n B ∧ ((readR n (digs c)).2.isSome = true → (readR n (digs c)).2 = some B) := by
  have hst := stt_start (n := n) c
  have HD := hide (h.rs.digit (by decide))
  rw [List.drop_zero] at HD
  have hpos : (dgR (digs c)).2.isSome = true → 1 ≤ 8 * c.length := fun hs => by
    rw [← digs_len]
    cases hd : digs c with
    | nil => rw [hd] at hs; cases hs
    | cons d l => simp
  obtain ⟨R, hR⟩ : ∃ R, readR n (digs c) = R := ⟨_, rfl⟩
  rw [hR] at hst ⊢
  have HST := hide hst
  have HH := hide h
  have hn := h.bm.n2
  have hn1 := h.bm.n1
  clear hR h hst
  generalize (dgR (digs c)).2 = o at *
  generalize o.isSome = okb at *
  generalize o.getD false = dv at *
  have hset : (((dv.toNat : Nat) : Int) == 1) = dv := by cases dv <;> rfl
  have HLEN := hide hc
  have HPOS := hide hpos
  clear hc hpos
  unfold PB
  go_enter Tryd.func52, Tryd.ntmps52
  go_wp2_with (go_at_call 64; refine HD.out.mono ?_; clear HD; rintro e w' ⟨rfl, h8⟩; have H8 := hide (HH.out.took h8); clear h8)
  clear HH
  go_loopw [6, 7, 8] (fun z6 z7 z8 wr => ∃ (ok s : Bool) (pl T B : Nat), z6 = .bool ok ∧ z7 = .bool s ∧ z8 = .int .i64 (pl : Int) ∧ pl ≤ n ∧ Hid ((ok = true → T ≤ 8 * c.length) ∧ T ≤ 8 * c.length + 1) ∧ Hid (RB w wr p cv c T L n B) ∧ Hid (Stt R n ok s pl T B c)) (fun z6 _ z8 _ => 2 * (n - (intOf z8).toNat) + (match z6 with | .bool b => b.toNat | _ => 0))
  case atStart => exact ⟨okb, dv, 0, 1, 0, rfl, rfl, rfl, by omega, hide ⟨HPOS.out, by omega⟩, H8, HST⟩
  case round =>
    clear HST H8 hset HPOS
    obtain ⟨ok, s, pl, T, B, rfl, rfl, rfl, hpl, HT, HB, HS⟩ := hrel
    cases ok with
    | false =>
      have HR2 : Hid (R = (T, none)) := hide HS.out
      clear HS
      go_wp2_with fail
      go_ret
      rw [HR2.out]
      exact ⟨rfl, B, HB.out, fun h => by cases h⟩
    | true =>
      have c0 := HB.out.bm.c0
      by_cases hlt : pl < n
      · have hli : (pl : Int) < (n : Int) := by omega
        have hsub : (n : Int) - (pl : Int) = ((n - pl : Nat) : Int) := by omega
        have HST := hide (stretch_any HB.out.rs (by have := HT.out.2; have := HLEN.out; omega) (n - pl) (by omega) (by omega))
        obtain ⟨hgo1, hgo2⟩ := stt_go HS.out hlt
        have HG1 := hide hgo1
        have HG2 := hide hgo2
        have hle : ∀ k x, stR (n - pl) ((digs c).drop T) = (k, some x) → 1 ≤ x ∧ pl + x ≤ n ∧ T + k ≤ 8 * c.length := fun k x hk => by
          have h1 := st_le (by omega) hk
          have h2 := (good_st (n - pl)).sle _ _ _ hk
          rw [List.length_drop, digs_len] at h2
          have := HT.out.1 rfl
          omega
        have hle2 : T + (stR (n - pl) ((digs c).drop T)).1 ≤ 8 * c.length + 1 := by
          have := HT.out.1 rfl
          have h2 := (good_st (n - pl)).le ((digs c).drop T)
          rw [List.length_drop, digs_len] at h2
          omega
        have HLE := hide hle
        have HLE2 := hide hle2
        clear hgo1 hgo2 hle hle2 HS
        generalize stR (n - pl) ((digs c).drop T) = q at *
        obtain ⟨k, o⟩ := q
        cases o with
        | none =>
          simp only [Option.getD, Option.isSome] at HST
          have HS2 := hide (HG1.out k rfl)
          clear HG1 HG2 HLE
          go_wp2_with (go_at_call 65; refine HST.out.mono ?_; clear HST; rintro e w' ⟨rfl, h8⟩; have H8 := hide (HB.out.took h8); clear h8)
          go_roundw
          case rel => exact ⟨false, !s, pl, T + k, B, rfl, rfl, by go_num, hpl, hide ⟨(fun h => by cases h), HLE2.out⟩, H8, HS2⟩
          case measure => simp [intOf]
        | some x =>
          simp only [Option.getD, Option.isSome] at HST
          have HS2 := hide (HG2.out k x rfl)
          obtain ⟨x1, x2, x3⟩ := HLE.out k x rfl
          have HX3 := hide x3
          clear HG1 HG2 HLE HLE2 x3
          cases s with
          | true =>
            go_wp2_with (first
              | (go_at_call 65; refine HST.out.mono ?_; clear HST; rintro e w' ⟨rfl, h8⟩; have H8 := hide (HB.out.took h8); have HSR := hide (SetRange_any (a := pl) (c := x) H8.out.bm x2); unfold PB at HSR; clear h8)
              | (go_at_call 66; refine HSR.out.mono ?_; clear HSR; rintro e w9 ⟨rfl, hb9, hc9⟩; have H9 := hide (H8.out.set hb9 hc9); clear hb9 hc9))
            go_roundw
            case rel => exact ⟨true, false, pl + x, T + k, _, rfl, rfl, by go_num, x2, hide ⟨fun _ => HX3.out, by have := HX3.out; omega⟩, H9, HS2⟩
            case measure => simp [intOf]; omega
          | false =>
            go_wp2_with (first
              | (go_at_call 65; refine HST.out.mono ?_; clear HST; rintro e w' ⟨rfl, h8⟩; have H8 := hide (HB.out.took h8); clear h8))
            go_roundw
            case rel => exact ⟨true, true, pl + x, T + k, _, rfl, rfl, by go_num, x2, hide ⟨fun _ => HX3.out, by have := HX3.out; omega⟩, H8, HS2⟩
            case measure => simp [intOf]; omega
      · have hli : ¬ (pl : Int) < (n : Int) := by omega
        have HR2 := hide (stt_end HS.out hlt)
        clear HS
        go_wp2_with fail
        go_ret
        rw [HR2.out]
        exact ⟨rfl, B, HB.out, fun _ => rfl⟩
end Go.Proofs.YtedhohamdbplhaaDoor.B
namespace Go.Proofs.YtedhohamdbplhaaDoor.B
open Go.RowKit
set_option linter.unusedVariables false
set_option linter.unusedSimpArgs false
set_option maxRecDepth 20000

theorem pad_step {T : Nat} (h : ¬ T % 8 = 0) (d : Bool) (l : List Bool) : padR (fil T) (d :: l) = if d = true then (1, none) else (1 + (padR (fil (T + 1)) l).1, (padR (fil (T + 1)) l).2) := by
  have e : fil T = fil (T + 1) + 1 := by unfold fil; omega
  rw [e]
  conv => lhs; unfold padR
  rw [bndR_some (c := 1) (a := d) rfl]
  cases d with
  | true => rfl
  | false => rfl
theorem pad_zero {T : Nat} (h : T % 8 = 0) (l : List Bool) : padR (fil T) l = (0, some ()) := by
  have e : fil T = 0 := by unfold fil; omega
  rw [e]
  rfl
/-- what atEnd says, and where the reader is then -/
def endB (c : List Nat) (T : Nat) : Bool := (padR (fil T) ((digs c).drop T)).2.isSome && decide (¬ (T + (padR (fil T) ((digs c).drop T)).1) / 8 < c.length)
def endT (c : List Nat) (T : Nat) : Nat := T + (padR (fil T) ((digs c).drop T)).1 + (if (padR (fil T) ((digs c).drop T)).2.isSome then 1 else 0)
theorem end_zero {c : List Nat} {T : Nat} (h : T % 8 = 0) : endB c T = decide (¬ T / 8 < c.length) ∧ endT c T = T + 1 := by
  unfold endB endT
  rw [pad_zero h]
  simp
theorem end_one {c : List Nat} {T : Nat} (h : ¬ T % 8 = 0) (l : List Bool) (hd : (digs c).drop T = true :: l) : endB c T = false ∧ endT c T = T + 1 := by
  unfold endB endT
  rw [hd, pad_step h, if_pos rfl]
  simp
theorem end_go {c : List Nat} {T : Nat} (h : ¬ T % 8 = 0) (hd : (digs c).drop T = false :: (digs c).drop (T + 1)) : endB c T = endB c (T + 1) ∧ endT c T = endT c (T + 1) := by
  unfold endB endT
  rw [hd, pad_step h, if_neg (by simp)]
  dsimp only
  rw [← Nat.add_assoc]
  exact ⟨rfl, rfl⟩
set_option maxHeartbeats 1000000 in
theorem atEnd_any {w0 w : World} {p T : Nat} {cv : Value} {c : List Nat} (h : RS w0 w p cv c T) (hT : T ≤ 8 * c.length) (hc : c.length ≤ 150000000000000) :
    Calls Tryd.prog 53 #[.pointer (some ⟨p, 0, none⟩)] w fun e w' => e = .returned (.bool (endB c T)) ∧ RS w0 w' p cv c (endT c T) := by
  obtain ⟨E, hE⟩ : ∃ E, endB c T = E := ⟨_, rfl⟩
  obtain ⟨F, hF⟩ : ∃ F, endT c T = F := ⟨_, rfl⟩
  rw [hE, hF]
  have HS := hide h
  have HE := hide (And.intro hE hF)
  have HTL := hide hT
  have HLEN := hide hc
  clear hE hF h hT hc
  go_enter Tryd.func53, Tryd.ntmps53
  go_wp2_with fail
  go_loopw [] (fun wr => ∃ T' : Nat, Hid (T' ≤ 8 * c.length) ∧ Hid (RS w0 wr p cv c T') ∧ Hid (endB c T' = E ∧ endT c T' = F)) (fun wr => match wr.cell? ⟨p, 1, none⟩ with | some (.int _ x) => (8 * c.length - x.toNat) | _ => 0)
  case atStart => exact ⟨T, HTL, HS, HE⟩
  case round =>
    clear HS HE HTL
    obtain ⟨T', HT, HS, HE⟩ := hrel
    obtain ⟨a, cap, hcv, -⟩ := HS.out.sl
    have c1 : wr.cell? ⟨p, 1, none⟩ = some (.int .i64 (T' : Int)) := cell_of_row _ _ _ _ _ _ HS.out.rd
    have hTb : T' < 4611686018427387904 := by have := HT.out; have := HLEN.out; omega
    have HD := hide (HS.out.digit hTb)
    by_cases h8 : T' % 8 = 0
    · obtain ⟨e1, e2⟩ := end_zero (c := c) h8
      have HE2 : Hid (E = decide (¬ T' / 8 < c.length) ∧ F = T' + 1) := hide ⟨HE.out.1.symm.trans e1, HE.out.2.symm.trans e2⟩
      have h8i : (T' : Int) % 8 = 0 := by omega
      have hsome : (dgR ((digs c).drop T')).2.isSome = decide (T' / 8 < c.length) := by
        by_cases hin : T' / 8 < c.length
        · rw [digs_drop_get hin]; simp [dgR, hin]
        · rw [digs_drop_end hin]; simp [dgR, hin]
      rw [hsome] at HD
      clear e1 e2 HE hsome h8
      generalize ((dgR ((digs c).drop T')).2.getD false).toNat = dv at *
      go_wp2_with (go_at_call 64; refine HD.out.mono ?_; clear HD; rintro e w' ⟨rfl, h9⟩; have H9 := hide h9; clear h9)
      go_ret
      exact ⟨by rw [HE2.out.1, decide_not]; rfl, by rw [HE2.out.2]; exact H9.out⟩
    · have hin : T' / 8 < c.length := by have := HT.out; omega
      have h8i : ((T' : Int) % 8 == 0) = false := by simp; omega
      have hdrop := digs_drop_get hin
      have HT2 : Hid (T' + 1 ≤ 8 * c.length) := hide (by have := HT.out; omega)
      cases hd : (c.getD (T' / 8) 0).testBit (7 - T' % 8) with
      | true =>
        rw [hd] at hdrop
        obtain ⟨e1, e2⟩ := end_one h8 _ hdrop
        have HE2 : Hid (E = false ∧ F = T' + 1) := hide ⟨HE.out.1.symm.trans e1, HE.out.2.symm.trans e2⟩
        rw [hdrop] at HD
        simp only [dgR, Option.getD, Option.isSome, Bool.toNat_true] at HD
        clear e1 e2 HE hd hdrop h8
        go_wp2_with (go_at_call 64; refine HD.out.mono ?_; clear HD; rintro e w' ⟨rfl, h9⟩; have H9 := hide h9; clear h9)
        go_ret
        exact ⟨by rw [HE2.out.1]; rfl, by rw [HE2.out.2]; exact H9.out⟩
      | false =>
        rw [hd] at hdrop
        obtain ⟨e1, e2⟩ := end_go h8 hdrop
        have HE2 : Hid (endB c (T' + 1) = E ∧ endT c (T' + 1) = F) := hide ⟨e1.symm.trans HE.out.1, e2.symm.trans HE.out.2⟩
        rw [hdrop] at HD
        simp only [dgR, Option.getD, Option.isSome, Bool.toNat_false] at HD
        clear e1 e2 HE hd hdrop h8
        go_wp2_with (go_at_call 64; refine HD.out.mono ?_; clear HD; rintro e w' ⟨rfl, h9⟩; have H9 := hide h9; clear h9)
        go_roundw
        case rel => exact ⟨T' + 1, HT2, H9, HE2⟩
        case measure =>
          have c2 : w'.cell? ⟨p, 1, none⟩ = some (.int .i64 ((T' + 1 : Nat) : Int)) := cell_of_row _ _ _ _ _ _ H9.out.rd
          rw [c1, c2]
          have := HT2.out
          show 8 * c.length - (((T' + 1 : Nat) : Int)).toNat < 8 * c.length - ((T' : Int)).toNat
          omega
theorem fault_any {w : World} {p T : Nat} {cv : Value} (h : RdM w p cv T) (hT : T < 4611686018427387904) (h1 : 1 ≤ T) :
    Calls Tryd.prog 54 #[.pointer (some ⟨p, 0, none⟩)] w fun e w' => e = .returned (.int .i64 (((T - 1) / 8 : Nat) : Int)) ∧ w' = w := by
  have c1 : w.cell? ⟨p, 1, none⟩ = some (.int .i64 (T : Int)) := cell_of_row _ _ _ _ _ _ h
  have hq : ((T : Int) - 1).tdiv 8 = (((T - 1) / 8 : Nat) : Int) := by rw [Int.tdiv_eq_ediv_of_nonneg (by omega)]; omega
  have hq2 : ((T : Int) - 1) / 8 = (((T - 1) / 8 : Nat) : Int) := by omega
  go_enter Tryd.func54, Tryd.ntmps54
  go_wp2_with fail
  go_ret
  exact ⟨by first | rfl | (rw [← hq2]; rfl), rfl⟩
/-- what Decode says: the bits; or the place -/
def dOut (n : Nat) (c : List Nat) : Option Nat × Nat := match decR n (digs c) with
  | (k, none) => (none, (k - 1) / 8)
  | (k, some B) => if k < 8 * c.length then (none, k / 8) else (some B, 0)
theorem dOut_no {n : Nat} {c : List Nat} {k : Nat} (h : readR n (digs c) = (k, none)) : dOut n c = (none, (k - 1) / 8) := by
  unfold dOut
  have : decR n (digs c) = (k, none) := bndR_none h
  rw [this]
theorem dOut_some {n : Nat} {c : List Nat} {k B : Nat} (h : readR n (digs c) = (k, some B)) (hk : k ≤ 8 * c.length) : dOut n c = if endB c k = true then (some B, 0) else (none, (endT c k - 1) / 8) := by
  unfold dOut endB endT
  have e : decR n (digs c) = (k + (bndR (padR (fil k)) (fun _ _ => retR B) ((digs c).drop k)).1, (bndR (padR (fil k)) (fun _ _ => retR B) ((digs c).drop k)).2) := bndR_some h
  rw [e]
  cases hp : padR (fil k) ((digs c).drop k) with
  | mk j o =>
    cases o with
    | none =>
      rw [bndR_none hp]
      simp
    | some u =>
      rw [bndR_some hp]
      have hj := (pad_is _ _ _ _ hp).1
      have h8 : (k + j) % 8 = 0 := by rw [hj]; unfold fil; omega
      by_cases hlt : k + j < 8 * c.length
      · have h1 : (k + j) / 8 < c.length := by omega
        simp [retR, hlt, h1]
      · have h1 : ¬ (k + j) / 8 < c.length := by omega
        simp [retR, hlt, h1]
end Go.Proofs.YtedhohamdbplhaaDoor.B
namespace Go.Proofs.YtedhohamdbplhaaDoor.B
open Go.RowKit
set_option linter.unusedVariables false
set_option linter.unusedSimpArgs false
set_option maxRecDepth 20000

theorem good_read (n : Nat) : Good (readR n) := good_bnd good_dg fun d _ => good_rd n (n + 1) 0 d 0
/-- what Decode hands back -/
def DcP (w : World) (n : Nat) (q : Option Nat × Nat) (e : Ending) (w' : World) : Prop := match q.1 with
  | some B => ∃ v', e = .returned (.tuple #[v', .int .i64 0, .int .i64 0]) ∧ w'.ownsRow w.heap.size 30 1 v' (nW n) ((wds B (nW n)).map u64V) ∧ WSl w' v' (wds B (nW n)) ∧ B < 2 ^ n ∧ Below w.heap.size w w'
  | none => e = .returned (.tuple #[.slice none 0 0, .int .i64 (q.2 : Nat), .int .i64 31]) ∧ Below w.heap.size w w'
theorem decode_no {w : World} (n : Int) (cv : Value) (h : ¬ (1 ≤ n ∧ n ≤ 65536)) : Calls Tryd.prog 37 #[.int .i64 n, cv] w fun e w' => e = .returned (.tuple #[.slice none 0 0, .int .i64 0, .int .i64 1]) ∧ Below w.heap.size w w' := by
  have HN := hide (New_no w n h)
  go_enter Tryd.func37, Tryd.ntmps37
  go_wp2_with (go_at_call 51; refine HN.out.mono ?_; rintro e w' ⟨rfl, hw⟩; have hw2 := hw.symm; clear hw; subst hw2)
  refine bodyPost_ret (results_tmp3 rfl _ _ _) rfl ?_
  exact ⟨rfl, Below.refl _ _⟩
theorem own_low {w : World} {b b' : Nat} {e : TypeId} {size : Nat} {v : Value} {n : Nat} {xs : List Value} (h : w.ownsRow b e size v n xs) (hb : b' ≤ b) : w.ownsRow b' e size v n xs := by
  refine ⟨h.1, ?_⟩
  rcases h.2 with h0 | ⟨g, cap, cur, rfl, h1, r⟩
  · exact .inl h0
  · exact .inr ⟨g, cap, cur, rfl, Nat.le_trans hb h1, r⟩
set_option maxHeartbeats 2000000 in
theorem decode_any {w : World} {n : Nat} {cv : Value} {c : List Nat} (h1 : 1 ≤ n) (h2 : n ≤ 65536) (hc : CSl w cv c) (hl : c.length ≤ 150000000000000) :
    Calls Tryd.prog 37 #[.int .i64 (n : Int), cv] w (DcP w n (dOut n c)) := by
  have HN := hide (New_any w n h1 h2)
  have HST : Hid (∀ w1 L, BNewAt w w1 L n 0 → RB w (w1.alloc (.cells #[cv, .int .i64 0] 127)) w1.heap.size cv c 0 L n 0) := hide fun w1 L hN => by
    obtain ⟨hb, hbl, hu⟩ := hN
    refine ⟨Go.heap_alloc_new w1 _, hc, hb.below ((Below.refl _ _).alloc (Nat.le_refl _) _), hbl.alloc hbl.size _, hbl.size, fun b hU => ⟨hu b hU, fun e => ?_⟩⟩
    have := hb.uLt b hU
    omega
  have HRD := hide fun (w2 : World) (p : Nat) (L : BL) (h : RB w w2 p cv c 0 L n 0) => read_any h hl
  have hrk : ∀ k B, readR n (digs c) = (k, some B) → k ≤ 8 * c.length := fun k B h => by
    have := (good_read n).sle _ _ _ h
    rwa [digs_len] at this
  have hr1 : 1 ≤ (readR n (digs c)).1 ∧ (readR n (digs c)).1 ≤ 8 * c.length + 1 := by
    refine ⟨?_, ?_⟩
    · unfold readR
      cases hd : digs c with
      | nil => exact Nat.le_refl _
      | cons d l =>
        rw [bndR_some (c := 1) (a := d) rfl]
        show 1 ≤ 1 + _
        omega
    · have := (good_read n).le (digs c)
      rwa [digs_len] at this
  have HNO := hide fun k h => dOut_no (n := n) (c := c) (k := k) h
  have HSO := hide fun k B h hk => dOut_some (n := n) (c := c) (k := k) (B := B) h hk
  obtain ⟨Q, hQ⟩ : ∃ Q, dOut n c = Q := ⟨_, rfl⟩
  rw [hQ] at HNO HSO ⊢
  clear hQ
  have HL := hide hl
  obtain ⟨a, cap, rfl, -⟩ := hc
  clear hl
  generalize readR n (digs c) = q at *
  obtain ⟨k, o⟩ := q
  dsimp only at hr1 HRD
  have HK1 := hide hr1
  clear hr1
  cases o with
  | none =>
    have HQ := hide (HNO.out k rfl)
    simp only [Option.isSome] at HRD
    clear hrk HNO HSO
    go_enter Tryd.func37, Tryd.ntmps37
    go_wp2_with (first
      | (go_at_call 51; refine HN.out.mono ?_; clear HN; rintro e w1 ⟨L, rfl, hN⟩; have HS := hide (HST.out w1 L hN); clear hN HST; unfold PB; have HR := hide (HRD.out _ _ _ HS.out); clear HRD; unfold PB at HR)
      | (go_at_call 52; refine HR.out.mono ?_; clear HR; rintro e w2 ⟨rfl, B, hB, -⟩; have HB := hide hB; have HF := hide (fault_any hB.rd (by have := HK1.out; have := HL.out; omega) HK1.out.1); clear hB)
      | (go_at_call 54; refine HF.out.mono ?_; clear HF; rintro e w3 ⟨rfl, hw⟩; have hw2 := hw.symm; clear hw; subst hw2))
    refine bodyPost_ret (results_tmp3 rfl _ _ _) rfl ?_
    rw [HQ.out]
    exact ⟨rfl, HB.out.bel⟩
  | some B0 =>
    have hk := hrk k B0 rfl
    have HQ := hide (HSO.out k B0 rfl hk)
    have HKL := hide hk
    simp only [Option.isSome] at HRD
    clear hrk HNO HSO hk
    have hte : 1 ≤ endT c k ∧ endT c k ≤ 8 * c.length + 10 := by
      unfold endT
      have := HK1.out.1
      have h1 := (good_pad (fil k)).le ((digs c).drop k)
      rw [List.length_drop, digs_len] at h1
      have := HKL.out
      split <;> omega
    have HTE := hide hte
    clear hte
    cases he : endB c k with
    | true =>
      rw [he, if_pos rfl] at HQ
      have HAE := hide fun (w1 w2 : World) (p : Nat) (h : RS w1 w2 p (.slice a c.length cap) c k) => atEnd_any h HKL.out HL.out
      rw [he] at HAE
      clear he
      go_enter Tryd.func37, Tryd.ntmps37
      go_wp2_with (first
        | (go_at_call 51; refine HN.out.mono ?_; clear HN; rintro e w1 ⟨L, rfl, hN⟩; have HS := hide (HST.out w1 L hN); clear hN HST; unfold PB; have HR := hide (HRD.out _ _ _ HS.out); clear HRD; unfold PB at HR)
        | (go_at_call 52; refine HR.out.mono ?_; clear HR; rintro e w2 ⟨rfl, B, hB, hBB⟩; obtain rfl : B0 = B := (by simpa using hBB); have HB := hide hB; have HA := hide (HAE.out _ _ _ hB.rs); clear hB hBB HAE)
        | (go_at_call 53; refine HA.out.mono ?_; clear HA; rintro e w3 ⟨rfl, h3⟩; have HB3 := hide (HB.out.took h3); have HWD := hide (Words_any HB3.out.bm); unfold PB at HWD; clear h3)
        | (go_at_call 55; refine HWD.out.mono ?_; clear HWD; rintro e w4 ⟨v', rfl, ho4, hs4, hb4⟩; have HFIN : Hid (w4.ownsRow w.heap.size 30 1 v' (nW n) ((wds B0 (nW n)).map u64V) ∧ WSl w4 v' (wds B0 (nW n)) ∧ B0 < 2 ^ n ∧ Below w.heap.size w w4) := hide ⟨own_low ho4 HB3.out.bel.size, hs4, HB3.out.bm.hB, HB3.out.bel.trans (hb4.mono HB3.out.bel.size)⟩; obtain ⟨va, vcap, rfl, -⟩ := hs4; clear ho4 hb4))
      refine bodyPost_ret (results_tmp3 rfl _ _ _) rfl ?_
      rw [HQ.out]
      exact ⟨_, rfl, HFIN.out⟩
    | false =>
      rw [he, if_neg (by simp)] at HQ
      have HAE := hide fun (w1 w2 : World) (p : Nat) (h : RS w1 w2 p (.slice a c.length cap) c k) => atEnd_any h HKL.out HL.out
      rw [he] at HAE
      clear he
      go_enter Tryd.func37, Tryd.ntmps37
      go_wp2_with (first
        | (go_at_call 51; refine HN.out.mono ?_; clear HN; rintro e w1 ⟨L, rfl, hN⟩; have HS := hide (HST.out w1 L hN); clear hN HST; unfold PB; have HR := hide (HRD.out _ _ _ HS.out); clear HRD; unfold PB at HR)
        | (go_at_call 52; refine HR.out.mono ?_; clear HR; rintro e w2 ⟨rfl, B, hB, hBB⟩; have HB := hide hB; have HA := hide (HAE.out _ _ _ hB.rs); clear hB hBB HAE)
        | (go_at_call 53; refine HA.out.mono ?_; clear HA; rintro e w3 ⟨rfl, h3⟩; have HB3 := hide (HB.out.took h3); have HF := hide (fault_any HB3.out.rd (by have := HTE.out; have := HL.out; omega) HTE.out.1); clear h3)
        | (go_at_call 54; refine HF.out.mono ?_; clear HF; rintro e w4 ⟨rfl, hw⟩; have hw2 := hw.symm; clear hw; subst hw2))
      refine bodyPost_ret (results_tmp3 rfl _ _ _) rfl ?_
      rw [HQ.out]
      exact ⟨rfl, HB3.out.bel⟩
end Go.Proofs.YtedhohamdbplhaaDoor.B
namespace Go.Proofs.YtedhohamdbplhaaDoor.B
open Go.RowKit Go.Shelf
set_option linter.unusedVariables false
set_option linter.unusedSimpArgs false
set_option maxRecDepth 20000

theorem can_true {n : Int} {l : List Nat} (h : canB n l = true) : ∃ m : Nat, n = (m : Int) ∧ 1 ≤ m ∧ m ≤ 65536 ∧ cwErr m l = 0 := by
  have h' := of_decide_eq_true h
  exact ⟨n.toNat, by omega, by omega, by omega, h'.2.2⟩

theorem own_csl {w : World} {b : Nat} {cv : Value} {c : List Nat} (h : w.ownsRow b 5 1 cv c.length (c.map byV)) (hb : ∀ x ∈ c, x < 256) : CSl w cv c := by
  rcases h.2 with ⟨rfl, hz⟩ | ⟨g, cap, cur, rfl, _, hh, h1, h2, _⟩
  · exact ⟨none, 0, by rw [hz], by omega, Nat.zero_le _, hb, fun h => by omega⟩
  · refine ⟨_, _, rfl, h1, h2, hb, fun _ => ⟨g, 0, rfl, fun i hi => ?_⟩⟩
    have := h.cells (g := g) rfl i (byV (c.getD i 0)) (by simp [List.getD, hi])
    rw [Addr.add_lit] at this
    simpa [byV] using this
theorem wrt_encF {c : List Nat} {B n : Nat} (h : Wrt c (encD B n)) : digs c = encF B n := h.2
theorem dOut_enc {c : List Nat} {B n : Nat} (h1 : 1 ≤ n) (h2 : n ≤ 65536) (hB : B < 2 ^ n) (h : Wrt c (encD B n)) : dOut n c = (some B, 0) := by
  unfold dOut
  have e := dec_of h1 hB h2 []
  rw [List.append_nil, ← wrt_encF h] at e
  rw [e, digs_len]
  simp
theorem enc_pos {c : List Nat} {B n : Nat} (h : Wrt c (encD B n)) : 0 < c.length ∧ (c.getD 0 0).testBit 7 = B.testBit 0 := by
  have hl := h.len
  have h0 : 0 < c.length := by
    rw [hl, encD, List.length_cons]
    omega
  refine ⟨h0, ?_⟩
  have hg := digs_get c 0 (by simpa using h0)
  rw [h.2] at hg
  simpa [encD] using hg.symm
theorem enc_open {w : World} {b : Nat} {cv : Value} {c : List Nat} {B n : Nat} (ho : w.ownsRow b 5 1 cv c.length (c.map byV)) (hW : Wrt c (encD B n)) : 0 < c.length ∧ (c.getD 0 0).testBit 7 = B.testBit 0 ∧ c.getD 0 0 < 256 ∧ ∃ ca ccap cb coff, cv = .slice ca c.length ccap ∧ ca = some ⟨cb, coff, none⟩ ∧ c.length ≤ ccap ∧ ccap ≤ 9223372036854775807 ∧ w.cell? ⟨cb, coff, none⟩ = some (.int .u8 (c.getD 0 0 : Nat)) ∧ Hid (CSl w cv c) := by
  obtain ⟨h0, hb⟩ := enc_pos hW
  have hc := own_csl ho hW.1
  have hc' := hc
  obtain ⟨ca, ccap, rfl, h1, h2, h3, h4⟩ := hc
  obtain ⟨cb, coff, rfl, h5⟩ := h4 h0
  unfold maxLen at h2
  refine ⟨h0, hb, h3 _ (mem_getD h0), _, _, cb, coff, rfl, rfl, h1, by omega, ?_, hide hc'⟩
  simpa using h5 0 h0
theorem cell_below2 {w w' : World} {b o : Nat} {v : Value} (hb : Below w.heap.size w w') (h : w.cell? ⟨b, o, none⟩ = some v) : w'.cell? ⟨b, o, none⟩ = some v := by
  rw [World.cell?_of_block (hb.block _ (World.block_lt_of_cell? w _ h))]
  exact h
theorem top_bit {y : Nat} (h : y < 256) : y / 128 = (y.testBit 7).toNat := by
  rw [Nat.toNat_testBit]
  have : (2 : Nat) ^ 7 = 128 := by decide
  rw [this]
  omega
theorem encP_len {B n : Nat} : ∀ k p, n - p ≤ k → p ≤ n → (encP B n p).length ≤ 2 * (n - p)
  | 0, p, h, hp => by rw [encP_end (by omega)]; simp
  | k + 1, p, h, hp => by
    by_cases hlt : p < n
    · obtain ⟨a1, a2, -, -⟩ := ren_spec (B := B) hlt
      have ih := encP_len k (ren B n p) (by omega) a2 (B := B)
      have hg := gam_small (x := ren B n p - p) (by omega)
      rw [encP_step hlt, List.length_append]
      omega
    · rw [encP_end hlt]; simp
theorem enc_len {c : List Nat} {B n : Nat} (h : Wrt c (encD B n)) (h2 : n ≤ 65536) : c.length ≤ 150000000000000 := by
  have h1 := h.len
  have h3 := encP_len (B := B) n 0 (by omega) (Nat.zero_le n)
  rw [h1, encD, List.length_cons]
  omega
theorem wd_val {l : List Nat} (hl : ∀ b ∈ l, b < 18446744073709551616) : wds (valW l) l.length = l := by
  refine List.ext_getElem (wds_len _ _) fun i h1 h2 => ?_
  have h3 := wds_get (B := valW l) h2
  rw [wd_valW l i hl] at h3
  have e1 : (wds (valW l) l.length).getD i 0 = (wds (valW l) l.length)[i] := by simp [List.getD, h1]
  have e2 : l.getD i 0 = l[i] := by simp [List.getD, h2]
  rw [← e1, ← e2]
  exact h3
end Go.Proofs.YtedhohamdbplhaaDoor.B
namespace Go.Proofs.YtedhohamdbplhaaDoor
open Go.RowKit
set_option linter.unusedVariables false
set_option linter.unusedSimpArgs false
set_option maxRecDepth 20000

/-- what each byte of a digest can be -/
def smayL (tied : Bool) (e : Nat) : List (Nat × Nat) := if tied = true ∧ e ≠ 0 then [(0, 0)] else [(0, 255)]
/-- what a length can be -/
def dmayL (lo hi : Nat) (tied : Bool) (e : Nat) : List (Nat × Nat) := if tied = true ∧ e ≠ 0 then [(0, 0)] else [(lo, hi)]
theorem sp3 {w : World} {A B : Obj} (lo hi : Nat) (h1 : lo < 18446744073709551616) (h2 : hi < 18446744073709551616) : SpL (((w.alloc A).alloc B).alloc (.cells #[.int .u64 (lo : Int), .int .u64 (hi : Int)] 74)) (.slice (some ⟨w.heap.size + 1 + 1, 0, none⟩) 1 1) [(lo, hi)] ∧ Below w.heap.size w (((w.alloc A).alloc B).alloc (.cells #[.int .u64 (lo : Int), .int .u64 (hi : Int)] 74)) := by
  refine ⟨?_, (((Below.refl _ _).alloc (Nat.le_refl _) _).alloc (by simp) _).alloc (by simp; omega) _⟩
  have := SpL.one (w := (w.alloc A).alloc B) lo hi h1 h2 74
  rw [show ((w.alloc A).alloc B).heap.size = w.heap.size + 1 + 1 by simp] at this
  exact this

set_option maxHeartbeats 1000000 in
theorem smay_any (w : World) (tied : Bool) (a b c d e : Nat) : Calls Tryd.prog 42 #[.agg #[.bool tied], aheadV a b c d e] w fun e' w' => ∃ v, e' = .returned v ∧ SpL w' v (smayL tied e) ∧ Below w.heap.size w w' := by
  unfold aheadV
  cases tied with
  | true =>
    by_cases h : e = 0
    · subst h
      rw [show smayL true 0 = [(0, 255)] from rfl]
      go_enter Tryd.func42, Tryd.ntmps42
      go_wp2
      go_ret
      exact ⟨_, rfl, (sp3 0 255 (by omega) (by omega)).1, (sp3 0 255 (by omega) (by omega)).2⟩
    · rw [show smayL true e = [(0, 0)] from if_pos ⟨rfl, h⟩]
      have hb : ((e : Int) == 0) = false := by simp only [beq_eq_false_iff_ne]; omega
      go_enter Tryd.func42, Tryd.ntmps42
      go_wp2
      go_ret
      exact ⟨_, rfl, (sp3 0 0 (by omega) (by omega)).1, (sp3 0 0 (by omega) (by omega)).2⟩
  | false =>
    rw [show smayL false e = [(0, 255)] from if_neg (by simp)]
    go_enter Tryd.func42, Tryd.ntmps42
    go_wp2
    go_ret
    exact ⟨_, rfl, (sp3 0 255 (by omega) (by omega)).1, (sp3 0 255 (by omega) (by omega)).2⟩
set_option maxHeartbeats 1000000 in
theorem dmay_any (w : World) (lo hi : Nat) (tied : Bool) (a b c d e : Nat) (hlo : lo < 18446744073709551616) (hhi : hi < 18446744073709551616) : Calls Tryd.prog 44 #[.agg #[.int .u64 (lo : Int), .int .u64 (hi : Int), .bool tied], aheadV a b c d e] w fun e' w' => ∃ v, e' = .returned v ∧ SpL w' v (dmayL lo hi tied e) ∧ Below w.heap.size w w' := by
  unfold aheadV
  cases tied with
  | true =>
    by_cases h : e = 0
    · subst h
      rw [show dmayL lo hi true 0 = [(lo, hi)] from rfl]
      go_enter Tryd.func44, Tryd.ntmps44
      go_wp2
      go_ret
      exact ⟨_, rfl, (sp3 lo hi (by omega) (by omega)).1, (sp3 lo hi (by omega) (by omega)).2⟩
    · rw [show dmayL lo hi true e = [(0, 0)] from if_pos ⟨rfl, h⟩]
      have hb : ((e : Int) == 0) = false := by simp only [beq_eq_false_iff_ne]; omega
      go_enter Tryd.func44, Tryd.ntmps44
      go_wp2
      go_ret
      exact ⟨_, rfl, (sp3 0 0 (by omega) (by omega)).1, (sp3 0 0 (by omega) (by omega)).2⟩
  | false =>
    rw [show dmayL lo hi false e = [(lo, hi)] from if_neg (by simp)]
    go_enter Tryd.func44, Tryd.ntmps44
    go_wp2
    go_ret
    exact ⟨_, rfl, (sp3 lo hi (by omega) (by omega)).1, (sp3 lo hi (by omega) (by omega)).2⟩
end Go.Proofs.YtedhohamdbplhaaDoor
namespace Go.Proofs.YtedhohamdbplhaaDoor
open Go.RowKit
set_option linter.unusedVariables false
set_option linter.unusedSimpArgs false
set_option maxRecDepth 20000

/-- the five numbers of some parts in memory -/
def P5 (w : World) (pb a b c d e : Nat) : Prop := w.cell? ⟨pb, 0, none⟩ = some (.int .u32 (a : Int)) ∧ w.cell? ⟨pb, 1, none⟩ = some (.int .u32 (b : Int)) ∧ w.cell? ⟨pb, 2, none⟩ = some (.int .u32 (c : Int)) ∧ w.cell? ⟨pb, 3, none⟩ = some (.int .u32 (d : Int)) ∧ w.cell? ⟨pb, 4, none⟩ = some (.int .u32 (e : Int))
def five (a b c d e i : Nat) : Nat := [a, b, c, d, e].getD i 0
theorem P5.at {w : World} {pb a b c d e i : Nat} (h : P5 w pb a b c d e) (hi : i < 5) : w.cell? ⟨pb, i, none⟩ = some (.int .u32 (five a b c d e i : Nat)) := by
  obtain ⟨h0, h1, h2, h3, h4⟩ := h
  rcases (show i = 0 ∨ i = 1 ∨ i = 2 ∨ i = 3 ∨ i = 4 by omega) with rfl | rfl | rfl | rfl | rfl
  · exact h0
  · exact h1
  · exact h2
  · exact h3
  · exact h4
theorem P5.below {w w' : World} {pb a b c d e : Nat} (h : P5 w pb a b c d e) (hb : Below w.heap.size w w') : P5 w' pb a b c d e := by
  obtain ⟨h0, h1, h2, h3, h4⟩ := h
  exact ⟨(hb.cell (p := ⟨pb, 0, none⟩) (World.block_lt_of_cell? w _ h0)).trans h0, (hb.cell (p := ⟨pb, 1, none⟩) (World.block_lt_of_cell? w _ h1)).trans h1, (hb.cell (p := ⟨pb, 2, none⟩) (World.block_lt_of_cell? w _ h2)).trans h2, (hb.cell (p := ⟨pb, 3, none⟩) (World.block_lt_of_cell? w _ h3)).trans h3, (hb.cell (p := ⟨pb, 4, none⟩) (World.block_lt_of_cell? w _ h4)).trans h4⟩

set_option maxHeartbeats 1000000 in
theorem nfits_any (w : World) (n pb a b c d e : Nat) (hT : BTab w) (hP : P5 w pb a b c d e) (hn : n < 18) (ha : a < 4294967296) (hb : b < 4294967296) (hx : five a b c d e (bnd n).1 < 4294967296) :
    Calls Tryd.prog 98 #[.int .i64 (n : Int), .pointer (some ⟨pb, 0, none⟩)] w fun e' w' => e' = .returned (.bool (meets (mayL n a b) (five a b c d e (bnd n).1) (five a b c d e (bnd n).1))) ∧ Below w.heap.size w w' := by
  have HM := hide fun k => may_any (w.drewN k) n a b c d e hT hn ha hb
  obtain ⟨t0, _, _⟩ := hT n hn
  obtain ⟨hpl, _, _⟩ := bnd_lt n hn
  have hc := hP.at hpl
  obtain ⟨h0, h1, h2, h3, h4⟩ := hP
  generalize five a b c d e (bnd n).1 = x at *
  generalize (bnd n).1 = pl at *
  have i1 : (n : Int) < 18 := by omega
  have i2 : (pl : Int) < 5 := by omega
  have HH := hide fun (y : World) (v : Value) (h : SpL y v (mayL n a b)) => have_any y v (mayL n a b) x h (by omega)
  generalize meets (mayL n a b) x x = r at *
  unfold aheadV at HM
  have hwx : IntKind.u64.wrap (x : Int) = (x : Int) := by simp [IntKind.wrap, IntKind.bits, IntKind.signed]; omega
  have HSS : Hid (∀ y, Below w.heap.size w y → y.cell? ⟨pb, 0, none⟩ = some (.int .u32 (a : Int)) ∧ y.cell? ⟨pb, 1, none⟩ = some (.int .u32 (b : Int)) ∧ y.cell? ⟨pb, 2, none⟩ = some (.int .u32 (c : Int)) ∧ y.cell? ⟨pb, 3, none⟩ = some (.int .u32 (d : Int)) ∧ y.cell? ⟨pb, 4, none⟩ = some (.int .u32 (e : Int)) ∧ y.cell? ⟨0, n * 3, none⟩ = some (.int .i64 (pl : Int)) ∧ y.cell? ⟨pb, pl, none⟩ = some (.int .u32 (x : Int))) := hide fun y hb => ⟨(hb.cell (p := ⟨pb, 0, none⟩) (World.block_lt_of_cell? w _ h0)).trans h0, (hb.cell (p := ⟨pb, 1, none⟩) (World.block_lt_of_cell? w _ h1)).trans h1, (hb.cell (p := ⟨pb, 2, none⟩) (World.block_lt_of_cell? w _ h2)).trans h2, (hb.cell (p := ⟨pb, 3, none⟩) (World.block_lt_of_cell? w _ h3)).trans h3, (hb.cell (p := ⟨pb, 4, none⟩) (World.block_lt_of_cell? w _ h4)).trans h4, (hb.cell (p := ⟨0, n * 3, none⟩) (World.block_lt_of_cell? w _ t0)).trans t0, (hb.cell (p := ⟨pb, pl, none⟩) (World.block_lt_of_cell? w _ hc)).trans hc⟩
  rename_i dead1 dead2 dead3 dead4
  clear dead1 dead2 dead3 dead4 hT
  go_enter Tryd.func98, Tryd.ntmps98
  go_wp2_with fail
  go_region_held3 (fun y => y.cell? ⟨pb, 0, none⟩ = some (.int .u32 (a : Int)) ∧ y.cell? ⟨pb, 1, none⟩ = some (.int .u32 (b : Int)) ∧ y.cell? ⟨pb, 2, none⟩ = some (.int .u32 (c : Int)) ∧ y.cell? ⟨pb, 3, none⟩ = some (.int .u32 (d : Int)) ∧ y.cell? ⟨pb, 4, none⟩ = some (.int .u32 (e : Int)) ∧ y.cell? ⟨0, n * 3, none⟩ = some (.int .i64 (pl : Int)) ∧ y.cell? ⟨pb, pl, none⟩ = some (.int .u32 (x : Int))) (first | exact ⟨h0, h1, h2, h3, h4, t0, hc⟩ | exact HSZ.out | exact HSY.out)
    ((first
      | (go_at_call 40; refine (HM.out 1).mono ?_; rintro e' y ⟨v, rfl, hs, hb2⟩; have HSP := hide hs; have HBY : Hid (Below w.heap.size w y) := hide ((bel_drewN (Below.refl _ _) 1).trans hb2); have HSY := hide (HSS.out y HBY.out); obtain ⟨g0, g1, g2, g3, g4, g5, g6⟩ := HSY.out; clear hs hb2 HM)
      | (go_at_call 96; refine (HH.out _ _ HSP.out).mono ?_; rintro e' z ⟨rfl, hb3⟩; have HBZ := hide (HBY.out.trans (hb3.mono HBY.out.size)); have HSZ := hide (HSS.out z HBZ.out); clear hb3)))
  all_goals
    go_wp2_with fail
    go_ret
    exact ⟨rfl, HBZ.out⟩
end Go.Proofs.YtedhohamdbplhaaDoor
namespace Go.Proofs.YtedhohamdbplhaaDoor
open Go.RowKit
set_option linter.unusedVariables false
set_option linter.unusedSimpArgs false
set_option maxRecDepth 20000

set_option maxHeartbeats 1000000 in
theorem ifits_any (w : World) (p : Value) : Calls Tryd.prog 104 #[.agg #[], p] w fun e' w' => e' = .returned (.bool true) ∧ Below w.heap.size w w' := by
  go_enter Tryd.func104, Tryd.ntmps104
  go_wp2
  go_ret
  exact ⟨rfl, by first | exact Below.refl _ _ | exact (Below.refl _ _).alloc (Nat.le_refl _) _⟩

set_option maxHeartbeats 1000000 in
theorem dfits_any (w : World) (lo hi : Nat) (tied : Bool) (pb a b c d e : Nat) (da : Option Addr) (dn dc : Nat) (hP : P5 w pb a b c d e) (hd : w.cell? ⟨pb, 41, none⟩ = some (.slice da dn dc)) (hlo : lo < 18446744073709551616) (hhi : hi < 18446744073709551616) (hdn : dn ≤ dc) (hdc : dc ≤ maxLen) :
    Calls Tryd.prog 100 #[.agg #[.int .u64 (lo : Int), .int .u64 (hi : Int), .bool tied], .pointer (some ⟨pb, 0, none⟩)] w fun e' w' => e' = .returned (.bool (meets (dmayL lo hi tied e) dn dn)) ∧ Below w.heap.size w w' := by
  unfold maxLen at hdc
  have HM := hide fun y => dmay_any y lo hi tied a b c d e hlo hhi
  have HH := hide fun (y : World) (v : Value) (h : SpL y v (dmayL lo hi tied e)) => have_any y v (dmayL lo hi tied e) dn h (by omega)
  generalize meets (dmayL lo hi tied e) dn dn = r at *
  have hwx : IntKind.u64.wrap (dn : Int) = (dn : Int) := by simp [IntKind.wrap, IntKind.bits, IntKind.signed]; omega
  unfold aheadV at HM
  have HZ := hide ((Below.refl w.heap.size w).alloc (Nat.le_refl _) (.cells #[.int .u64 (lo : Int), .int .u64 (hi : Int), .bool tied] 94))
  have HSS : Hid (∀ y, Below (w.heap.size + 1) (w.alloc (.cells #[.int .u64 (lo : Int), .int .u64 (hi : Int), .bool tied] 94)) y → y.cell? ⟨pb, 0, none⟩ = some (.int .u32 (a : Int)) ∧ y.cell? ⟨pb, 1, none⟩ = some (.int .u32 (b : Int)) ∧ y.cell? ⟨pb, 2, none⟩ = some (.int .u32 (c : Int)) ∧ y.cell? ⟨pb, 3, none⟩ = some (.int .u32 (d : Int)) ∧ y.cell? ⟨pb, 4, none⟩ = some (.int .u32 (e : Int)) ∧ y.cell? ⟨pb, 41, none⟩ = some (.slice da dn dc) ∧ y.cell? ⟨w.heap.size, 0, none⟩ = some (.int .u64 (lo : Int)) ∧ y.cell? ⟨w.heap.size, 1, none⟩ = some (.int .u64 (hi : Int)) ∧ y.cell? ⟨w.heap.size, 2, none⟩ = some (.bool tied)) := hide fun y hb => by
    have hbw : Below w.heap.size w y := HZ.out.trans (hb.mono (by omega))
    obtain ⟨h0, h1, h2, h3, h4⟩ := hP.below hbw
    have hr : y.heap[w.heap.size]? = some (.cells #[.int .u64 (lo : Int), .int .u64 (hi : Int), .bool tied] 94 (0, 0)) := by rw [hb.block _ (by omega)]; exact Go.heap_alloc_new w _
    exact ⟨h0, h1, h2, h3, h4, (hbw.cell (p := ⟨pb, 41, none⟩) (World.block_lt_of_cell? w _ hd)).trans hd, by rw [cell_of_row _ _ _ _ _ _ hr]; rfl, by rw [cell_of_row _ _ _ _ _ _ hr]; rfl, by rw [cell_of_row _ _ _ _ _ _ hr]; rfl⟩
  have HSZE := hide (show ((w.alloc (.cells #[.int .u64 (lo : Int), .int .u64 (hi : Int), .bool tied] 94)).drewN 1).heap.size = w.heap.size + 1 by show (w.alloc _).heap.size = _; simp)
  obtain ⟨h0, h1, h2, h3, h4, h5, h6, h7, h8⟩ := HSS.out _ (Below.refl _ _)
  clear hP hd
  go_enter Tryd.func100, Tryd.ntmps100
  go_wp2_with fail
  go_region_held3 (fun y => y.cell? ⟨pb, 0, none⟩ = some (.int .u32 (a : Int)) ∧ y.cell? ⟨pb, 1, none⟩ = some (.int .u32 (b : Int)) ∧ y.cell? ⟨pb, 2, none⟩ = some (.int .u32 (c : Int)) ∧ y.cell? ⟨pb, 3, none⟩ = some (.int .u32 (d : Int)) ∧ y.cell? ⟨pb, 4, none⟩ = some (.int .u32 (e : Int)) ∧ y.cell? ⟨pb, 41, none⟩ = some (.slice da dn dc) ∧ y.cell? ⟨w.heap.size, 0, none⟩ = some (.int .u64 (lo : Int)) ∧ y.cell? ⟨w.heap.size, 1, none⟩ = some (.int .u64 (hi : Int)) ∧ y.cell? ⟨w.heap.size, 2, none⟩ = some (.bool tied)) (first | exact ⟨h0, h1, h2, h3, h4, h5, h6, h7, h8⟩ | exact HSQ.out | exact HSY.out)
    ((first
      | (go_at_call 44; refine (HM.out ((w.alloc (.cells #[.int .u64 (lo : Int), .int .u64 (hi : Int), .bool tied] 94)).drewN 1)).mono ?_; rintro e' y ⟨v, rfl, hs, hb2⟩; have HSP := hide hs; have HBY : Hid (Below (w.heap.size + 1) (w.alloc (.cells #[.int .u64 (lo : Int), .int .u64 (hi : Int), .bool tied] 94)) y) := hide ((bel_drewN (Below.refl _ _) 1).trans (by have := hb2; rw [HSZE.out] at this; exact this)); have HSY := hide (HSS.out y HBY.out); obtain ⟨g0, g1, g2, g3, g4, g5, g6, g7, g8⟩ := HSY.out; clear hs hb2 HM)
      | (go_at_call 96; refine (HH.out _ _ HSP.out).mono ?_; rintro e' z ⟨rfl, hb3⟩; have HBQ := hide (HBY.out.trans (hb3.mono (by have := HBY.out.size; simp at this; omega))); have HSQ := hide (HSS.out z HBQ.out); clear hb3)))
  all_goals
    go_wp2_with fail
    go_ret
    exact ⟨rfl, HZ.out.trans (HBQ.out.mono (by omega))⟩
end Go.Proofs.YtedhohamdbplhaaDoor
namespace Go.Proofs.YtedhohamdbplhaaDoor
open Go.RowKit
set_option linter.unusedVariables false
set_option linter.unusedSimpArgs false
set_option maxRecDepth 20000

set_option maxHeartbeats 1000000 in
theorem nblank_any (w : World) (n pb a b c d e : Nat) (hT : BTab w) (hP : P5 w pb a b c d e) (hn : n < 18) (hfz : ∀ i, w.frozen? ⟨pb, i, none⟩ = false) :
    Calls Tryd.prog 97 #[.int .i64 (n : Int), .pointer (some ⟨pb, 0, none⟩)] w fun e' w' => e' = .returned (.tuple #[]) ∧ ∃ k, w' = (w.drewN k).setCell ⟨pb, (bnd n).1, none⟩ (.int .u32 0) := by
  obtain ⟨t0, _, _⟩ := hT n hn
  obtain ⟨hpl, _, _⟩ := bnd_lt n hn
  have hc := hP.at hpl
  have hf := hfz (bnd n).1
  generalize five a b c d e (bnd n).1 = x at *
  generalize (bnd n).1 = pl at *
  have i1 : (n : Int) < 18 := by omega
  have i2 : (pl : Int) < 5 := by omega
  rename_i dead1 dead2 dead3 dead4
  clear dead1 dead2 dead3 dead4 hT hP hfz
  go_enter Tryd.func97, Tryd.ntmps97
  go_wp2_with fail
  refine wp_region_still_tail 8 (by kernel_rfl) (by kernel_rfl) ?_
  simp only [List.take_succ_cons, List.take_zero, List.drop_succ_cons, List.drop_zero]
  repeat still_step
  refine wpStill_nil ?_
  go_wp2_with fail
  go_end0
  exact ⟨rfl, 1, rfl⟩
end Go.Proofs.YtedhohamdbplhaaDoor
namespace Go.Proofs.YtedhohamdbplhaaDoor
open Go.RowKit
set_option linter.unusedVariables false
set_option linter.unusedSimpArgs false
set_option maxRecDepth 20000

set_option maxHeartbeats 1000000 in
theorem dblank_any (w : World) (lo hi : Int) (tied : Bool) (pb : Nat) (da : Option Addr) (dn dc : Nat) (hd : w.cell? ⟨pb, 41, none⟩ = some (.slice da dn dc)) (hf : w.frozen? ⟨pb, 41, none⟩ = false) :
    Calls Tryd.prog 99 #[.agg #[.int .u64 lo, .int .u64 hi, .bool tied], .pointer (some ⟨pb, 0, none⟩)] w fun e' w' => e' = .returned (.tuple #[]) ∧ w' = (w.alloc (.cells #[.int .u64 lo, .int .u64 hi, .bool tied] 94)).setCell ⟨pb, 41, none⟩ (.slice none 0 0) := by
  have hb := (Below.refl w.heap.size w).alloc (Nat.le_refl _) (.cells #[.int .u64 lo, .int .u64 hi, .bool tied] 94)
  have hl := World.block_lt_of_cell? w _ hd
  have hd2 := (hb.cell (p := ⟨pb, 41, none⟩) hl).trans hd
  have hf2 := (hb.frozen (p := ⟨pb, 41, none⟩) hl).trans hf
  clear hd hf hb hl
  go_enter Tryd.func99, Tryd.ntmps99
  go_wp2
  go_end0
  exact ⟨rfl, rfl⟩
set_option maxHeartbeats 1000000 in
theorem iblank_any (w : World) (pb g0 g1 g2 g3 : Nat) (h0 : w.cell? ⟨pb, 5, none⟩ = some (.int .u64 (g0 : Int))) (h1 : w.cell? ⟨pb, 6, none⟩ = some (.int .u64 (g1 : Int))) (h2 : w.cell? ⟨pb, 7, none⟩ = some (.int .u64 (g2 : Int))) (h3 : w.cell? ⟨pb, 8, none⟩ = some (.int .u64 (g3 : Int))) (hf : ∀ i, w.frozen? ⟨pb, i, none⟩ = false) :
    Calls Tryd.prog 103 #[.agg #[], .pointer (some ⟨pb, 0, none⟩)] w fun e' w' => e' = .returned (.tuple #[]) ∧ w' = ((((w.alloc (.cells #[] 98)).setCell ⟨pb, 5, none⟩ (.int .u64 0)).setCell ⟨pb, 6, none⟩ (.int .u64 0)).setCell ⟨pb, 7, none⟩ (.int .u64 0)).setCell ⟨pb, 8, none⟩ (.int .u64 0) := by
  have hb := (Below.refl w.heap.size w).alloc (Nat.le_refl _) (.cells #[] 98)
  have hl : pb < w.heap.size := World.block_lt_of_cell? w _ h0
  have c5 := (hb.cell (p := ⟨pb, 5, none⟩) hl).trans h0
  have f5 := (hb.frozen (p := ⟨pb, 5, none⟩) hl).trans (hf 5)
  have c6 := (hb.cell (p := ⟨pb, 6, none⟩) hl).trans h1
  have f6 := (hb.frozen (p := ⟨pb, 6, none⟩) hl).trans (hf 6)
  have c7 := (hb.cell (p := ⟨pb, 7, none⟩) hl).trans h2
  have f7 := (hb.frozen (p := ⟨pb, 7, none⟩) hl).trans (hf 7)
  have c8 := (hb.cell (p := ⟨pb, 8, none⟩) hl).trans h3
  have f8 := (hb.frozen (p := ⟨pb, 8, none⟩) hl).trans (hf 8)
  clear h0 h1 h2 h3 hf hb hl
  go_enter Tryd.func103, Tryd.ntmps103
  go_wp2
  go_end0
  exact ⟨rfl, rfl⟩
end Go.Proofs.YtedhohamdbplhaaDoor
namespace Go.Proofs.YtedhohamdbplhaaDoor
open Go.RowKit
set_option linter.unusedVariables false
set_option linter.unusedSimpArgs false
set_option maxRecDepth 20000

/-- why the bytes are not just one packet -/
def why (n at' : Nat) (stuck : Bool) : Nat := if stuck = true then (if at' = n then 71 else if at' = 0 then 74 else 75) else (if at' < n then 76 else 0)

set_option maxHeartbeats 1000000 in
theorem reason_any (w : World) (rb : Nat) (ba : Option Addr) (n cap at' : Nat) (stuck : Bool) (h0 : w.cell? ⟨rb, 0, none⟩ = some (.slice ba n cap)) (h1 : w.cell? ⟨rb, 1, none⟩ = some (.int .i64 (at' : Int))) (h2 : w.cell? ⟨rb, 2, none⟩ = some (.bool stuck)) (hn : n ≤ cap) (hc : cap ≤ maxLen) (ha : at' ≤ n) :
    Calls Tryd.prog 27 #[.pointer (some ⟨rb, 0, none⟩)] w fun e' w' => e' = .returned (.int .i64 (why n at' stuck : Nat)) ∧ Below w.heap.size w w' ∧ w'.heap = w.heap := by
  unfold maxLen at hc
  cases stuck with
  | true =>
    by_cases e1 : at' = n
    · rw [show why n at' true = 71 from by unfold why; simp [e1]]
      have b1 : ((at' : Int) == (n : Int)) = true := by simp [e1]
      go_enter Tryd.func27, Tryd.ntmps27
      go_wp2
      repeat (go_quiet (fail); go_wp2)
      go_ret
      exact ⟨rfl, by first | exact bel_drewN (Below.refl _ _) _ | exact bel_drewN (bel_drewN (Below.refl _ _) _) _, rfl⟩
    · by_cases e2 : at' = 0
      · rw [show why n at' true = 74 from by unfold why; simp [e2]; omega]
        have b1 : ((at' : Int) == (n : Int)) = false := by simp only [beq_eq_false_iff_ne]; omega
        have b2 : ((at' : Int) == 0) = true := by simp [e2]
        go_enter Tryd.func27, Tryd.ntmps27
        go_wp2
        repeat (go_quiet (fail); go_wp2)
        go_ret
        exact ⟨rfl, by first | exact bel_drewN (Below.refl _ _) _ | exact bel_drewN (bel_drewN (Below.refl _ _) _) _, rfl⟩
      · rw [show why n at' true = 75 from by unfold why; simp [e1, e2]]
        have b1 : ((at' : Int) == (n : Int)) = false := by simp only [beq_eq_false_iff_ne]; omega
        have b2 : ((at' : Int) == 0) = false := by simp only [beq_eq_false_iff_ne]; omega
        go_enter Tryd.func27, Tryd.ntmps27
        go_wp2
        repeat (go_quiet (fail); go_wp2)
        go_ret
        exact ⟨rfl, by first | exact bel_drewN (Below.refl _ _) _ | exact bel_drewN (bel_drewN (Below.refl _ _) _) _, rfl⟩
  | false =>
    by_cases e1 : at' < n
    · rw [show why n at' false = 76 from by unfold why; simp [e1]]
      go_enter Tryd.func27, Tryd.ntmps27
      go_wp2
      repeat (go_quiet (fail); go_wp2)
      go_ret
      exact ⟨rfl, by first | exact bel_drewN (Below.refl _ _) _ | exact bel_drewN (bel_drewN (Below.refl _ _) _) _, rfl⟩
    · rw [show why n at' false = 0 from by unfold why; simp [e1]]
      go_enter Tryd.func27, Tryd.ntmps27
      go_wp2
      repeat (go_quiet (fail); go_wp2)
      go_ret
      exact ⟨rfl, by first | exact bel_drewN (Below.refl _ _) _ | exact bel_drewN (bel_drewN (Below.refl _ _) _) _, rfl⟩
end Go.Proofs.YtedhohamdbplhaaDoor
namespace Go.Proofs.YtedhohamdbplhaaDoor
open Go.RowKit
set_option linter.unusedVariables false
set_option linter.unusedSimpArgs false
set_option maxRecDepth 20000

/-- a number read, k bytes still to come: the value, the place, whether it is stuck -/
def rdN (l : List Nat) (L : List (Nat × Nat)) : Nat → Nat → Nat → Nat × Nat × Bool
  | 0, v, at' => (v, at', false)
  | k + 1, v, at' => if l.length ≤ at' then (0, at', true)
    else if meets L ((v * 256 + l.getD at' 0) * 256 ^ k) ((v * 256 + l.getD at' 0) * 256 ^ k + (256 ^ k - 1)) then rdN l L k (v * 256 + l.getD at' 0) (at' + 1) else (0, at', true)

/-- a reader in memory -/
structure Rd (w : World) (rb : Nat) (b off cap : Nat) (l : List Nat) (at' : Nat) (stuck : Bool) : Prop where
  row : w.heap[rb]? = some (.cells #[.slice (some ⟨b, off, none⟩) l.length cap, .int .i64 (at' : Int), .bool stuck] 71 (0, 0))
  h1 : l.length ≤ cap
  h2 : cap ≤ maxLen
  hb : ∀ x ∈ l, x < 256
  dat : ∀ i, i < l.length → w.cell? ⟨b, off + i, none⟩ = some (.int .u8 (l.getD i 0 : Nat))
  ne : b ≠ rb

/-- only block rb and new blocks have turned -/
structure Oth (rb : Nat) (w x : World) : Prop where
  os : x.os = w.os
  tape : x.tape = w.tape
  output : x.output = w.output
  size : w.heap.size ≤ x.heap.size
  block : ∀ j, j < w.heap.size → j ≠ rb → x.heap[j]? = w.heap[j]?
theorem Oth.refl (rb : Nat) (w : World) : Oth rb w w := ⟨rfl, rfl, rfl, Nat.le_refl _, fun _ _ _ => rfl⟩
theorem Oth.below {rb : Nat} {w x y : World} (h : Oth rb w x) (hb : Below x.heap.size x y) : Oth rb w y := ⟨hb.os.trans h.os, hb.tape.trans h.tape, hb.output.trans h.output, Nat.le_trans h.size hb.size, fun j h1 h2 => (hb.block j (Nat.lt_of_lt_of_le h1 h.size)).trans (h.block j h1 h2)⟩
theorem Oth.drewN {rb : Nat} {w x : World} (h : Oth rb w x) (n : Nat) : Oth rb w (x.drewN n) := ⟨h.os, h.tape, h.output, h.size, h.block⟩
theorem Oth.set {rb : Nat} {w x : World} (h : Oth rb w x) (i : Nat) (v : Value) : Oth rb w (x.setCell ⟨rb, i, none⟩ v) := ⟨h.os, h.tape, h.output, by rw [World.size_setCell]; exact h.size, fun j h1 h2 => (Go.heap_setCell_other _ _ _ _ (by exact h2)).trans (h.block j h1 h2)⟩
theorem SpL.oth {rb : Nat} {w x : World} {v : Value} {L : List (Nat × Nat)} (h : SpL w v L) (ho : Oth rb w x) (hne : v.ownBlock ≠ some rb) : SpL x v L := by
  obtain ⟨b, off, cap, rfl, h1, h2, h3, h4⟩ := h
  have hne' : b ≠ rb := fun e => hne (by simp [Value.ownBlock, e])
  refine ⟨b, off, cap, rfl, h1, h2, h3, fun i hi => ?_⟩
  obtain ⟨c0, c1⟩ := h4 i hi
  have hl := World.block_lt_of_cell? w _ c0
  exact ⟨(World.cell?_of_block (ho.block b hl hne')).trans c0, (World.cell?_of_block (ho.block b hl hne')).trans c1⟩
theorem Rd.same {w x : World} {rb b off cap at' : Nat} {l : List Nat} {stuck : Bool} (h : Rd w rb b off cap l at' stuck) (hr : x.heap[rb]? = w.heap[rb]?) (hb : x.heap[b]? = w.heap[b]?) : Rd x rb b off cap l at' stuck :=
  ⟨hr.trans h.row, h.h1, h.h2, h.hb, fun i hi => (World.cell?_of_block hb).trans (h.dat i hi), h.ne⟩
theorem Rd.below {w x : World} {rb b off cap at' : Nat} {l : List Nat} {stuck : Bool} (h : Rd w rb b off cap l at' stuck) (hb : Below w.heap.size w x) : Rd x rb b off cap l at' stuck := by
  have hr := (Array.getElem?_eq_some_iff.1 h.row).1
  refine ⟨(hb.block rb hr).trans h.row, h.h1, h.h2, h.hb, fun i hi => ?_, h.ne⟩
  have hc := h.dat i hi
  exact (hb.cell (p := ⟨b, off + i, none⟩) (World.block_lt_of_cell? w _ hc)).trans hc
theorem Rd.stop {w : World} {rb b off cap at' : Nat} {l : List Nat} {stuck : Bool} (h : Rd w rb b off cap l at' stuck) : Rd (w.setCell ⟨rb, 2, none⟩ (.bool true)) rb b off cap l at' true :=
  ⟨by rw [Go.heap_setCell_same w rb 2 _ 71 _ h.row]; rfl, h.h1, h.h2, h.hb, fun i hi => (World.cell?_of_block (Go.heap_setCell_other _ _ _ _ (by exact h.ne))).trans (h.dat i hi), h.ne⟩
theorem Rd.go {w : World} {rb b off cap at' : Nat} {l : List Nat} {stuck : Bool} (h : Rd w rb b off cap l at' stuck) (q : Nat) : Rd (w.setCell ⟨rb, 1, none⟩ (.int .i64 (q : Int))) rb b off cap l q stuck :=
  ⟨by rw [Go.heap_setCell_same w rb 1 _ 71 _ h.row]; rfl, h.h1, h.h2, h.hb, fun i hi => (World.cell?_of_block (Go.heap_setCell_other _ _ _ _ (by exact h.ne))).trans (h.dat i hi), h.ne⟩
theorem Rd.cells {w : World} {rb b off cap at' : Nat} {l : List Nat} {stuck : Bool} (h : Rd w rb b off cap l at' stuck) : w.cell? ⟨rb, 0, none⟩ = some (.slice (some ⟨b, off, none⟩) l.length cap) ∧ w.cell? ⟨rb, 1, none⟩ = some (.int .i64 (at' : Int)) ∧ w.cell? ⟨rb, 2, none⟩ = some (.bool stuck) ∧ w.frozen? ⟨rb, 1, none⟩ = false ∧ w.frozen? ⟨rb, 2, none⟩ = false :=
  ⟨by rw [cell_of_row _ _ _ _ _ _ h.row]; rfl, by rw [cell_of_row _ _ _ _ _ _ h.row]; rfl, by rw [cell_of_row _ _ _ _ _ _ h.row]; rfl, frozen_of_row _ _ _ _ _ h.row, frozen_of_row _ _ _ _ _ h.row⟩

end Go.Proofs.YtedhohamdbplhaaDoor
namespace Go.Proofs.YtedhohamdbplhaaDoor
open Go.RowKit
set_option linter.unusedVariables false
set_option linter.unusedSimpArgs false
set_option maxRecDepth 20000

theorem or_add {a b i : Nat} (h : b < 2 ^ i) : 2 ^ i * a ||| b = 2 ^ i * a + b := (Nat.two_pow_add_eq_or_of_lt h a).symm
theorem wrap_u64 {n : Nat} (h : n < 18446744073709551616) : IntKind.u64.wrap (n : Int) = (n : Int) := by
  simp [IntKind.wrap, IntKind.bits, IntKind.signed]; omega
theorem rn_num {y x k width : Nat} (hk : k < width) (hw : width ≤ 8) (hy : y < 256 ^ k) (hx : x < 256) : ∃ z lo p pm hi : Nat, z = y * 256 + x ∧ lo = z * 256 ^ (width - k - 1) ∧ hi = lo + (256 ^ (width - k - 1) - 1) ∧ z < 256 ^ (k + 1) ∧ z < 18446744073709551616 ∧ lo < 18446744073709551616 ∧ hi < 18446744073709551616 ∧
    IntKind.u64.wrap ((y : Int) * 256) = (y : Int) * 256 ∧ bits BinOp.or IntKind.u64 ((y : Int) * 256) (x : Int) = (z : Int) ∧ IntKind.u64.wrap ((z : Int) * 2 ^ (8 * (width - 1 - k))) = (lo : Int) ∧ IntKind.u64.wrap (2 ^ (8 * (width - 1 - k))) = (p : Int) ∧ IntKind.u64.wrap ((p : Int) - 1) = (pm : Int) ∧ bits BinOp.or IntKind.u64 (lo : Int) (pm : Int) = (hi : Int) := by
  have e1 : width - 1 - k = width - k - 1 := by omega
  rw [e1]
  obtain ⟨m, hm⟩ : ∃ m, m = width - k - 1 := ⟨_, rfl⟩
  rw [← hm]
  have hz : y * 256 + x < 256 ^ (k + 1) := by rw [Nat.pow_succ]; omega
  have hp : 0 < 256 ^ m := Nat.pow_pos (by decide)
  have htop : 256 ^ (k + 1) * 256 ^ m ≤ 18446744073709551616 := by
    rw [← Nat.pow_add]
    exact Nat.le_trans (Nat.pow_le_pow_right (by decide) (show k + 1 + m ≤ 8 by omega)) (by decide)
  have h1 : (y * 256 + x + 1) * 256 ^ m ≤ 18446744073709551616 := Nat.le_trans (Nat.mul_le_mul_right _ hz) htop
  have h2 : (y * 256 + x + 1) * 256 ^ m = (y * 256 + x) * 256 ^ m + 256 ^ m := by rw [Nat.add_mul, Nat.one_mul]
  have h3 : 256 ^ m = 2 ^ (8 * m) := by rw [Nat.pow_mul]
  have hpt : 256 ^ m < 18446744073709551616 := Nat.lt_of_le_of_lt (Nat.pow_le_pow_right (by decide) (show m ≤ 7 by omega)) (by decide)
  have hz2 : y * 256 + x ≤ (y * 256 + x) * 256 ^ m := Nat.le_mul_of_pos_right _ hp
  refine ⟨y * 256 + x, (y * 256 + x) * 256 ^ m, 256 ^ m, 256 ^ m - 1, (y * 256 + x) * 256 ^ m + (256 ^ m - 1), rfl, rfl, rfl, hz, by omega, by omega, by omega, ?_, ?_, ?_, ?_, ?_, ?_⟩
  · have := wrap_u64 (n := y * 256) (by omega)
    simpa using this
  · have := u64_or_nat (y * 256) x (by omega) (by omega)
    rw [show y * 256 ||| x = y * 256 + x by rw [show y * 256 = 2 ^ 8 * y by omega]; exact or_add (by omega)] at this
    simpa using this
  · have := wrap_u64 (n := (y * 256 + x) * 256 ^ m) (by omega)
    rw [h3] at this
    rw [h3]
    simpa using this
  · have := wrap_u64 (n := 256 ^ m) (by omega)
    rw [h3] at this
    rw [h3]
    simpa using this
  · have := wrap_u64 (n := 256 ^ m - 1) (by omega)
    rw [← this]
    congr 1
    omega
  · have := u64_or_nat ((y * 256 + x) * 256 ^ m) (256 ^ m - 1) (by omega) (by omega)
    rw [show (y * 256 + x) * 256 ^ m ||| (256 ^ m - 1) = (y * 256 + x) * 256 ^ m + (256 ^ m - 1) by
      rw [Nat.mul_comm, h3]; exact or_add (by rw [← h3]; omega)] at this
    exact this

set_option maxHeartbeats 1000000 in
theorem number_any (w : World) (rb b off cap at' width : Nat) (l : List Nat) (L : List (Nat × Nat)) (v : Value) (h : Rd w rb b off cap l at' false) (hs : SpL w v L) (hne : v.ownBlock ≠ some rb) (hw : width ≤ 8) (ha : at' ≤ l.length) :
    Calls Tryd.prog 25 #[.pointer (some ⟨rb, 0, none⟩), .int .i64 (width : Int), v] w fun e' w' => e' = .returned (.int .u64 ((rdN l L width 0 at').1 : Nat)) ∧ Rd w' rb b off cap l (rdN l L width 0 at').2.1 (rdN l L width 0 at').2.2 ∧ Oth rb w w' := by
  have HR := hide h
  have HSL := hide fun x (ho : Oth rb w x) => hs.oth ho hne
  have hcap := h.h2
  have hlc := h.h1
  unfold maxLen at hcap
  obtain ⟨sb, soff, scap, rfl, _, _, _, _⟩ := id hs
  have HBY := hide h.hb
  clear h hs hne
  rename_i dead1 dead2 dead3 dead4
  clear dead1 dead2 dead3 dead4
  go_enter Tryd.func25, Tryd.ntmps25
  go_wp2_with fail
  go_loopw [7, 12] (fun u i wr => ∃ k y : Nat, k ≤ width ∧ i = .int .i64 k ∧ u = .int .u64 (y : Int) ∧ y < 256 ^ k ∧ at' + k ≤ l.length ∧ Hid (rdN l L width 0 at' = rdN l L (width - k) y (at' + k)) ∧ Rd wr rb b off cap l (at' + k) false ∧ Oth rb w wr) (fun _ i _ => width - (intOf i).toNat)
  case atStart => exact ⟨0, 0, Nat.zero_le _, rfl, rfl, by decide, ha, hide rfl, HR.out, Oth.refl _ _⟩
  case round =>
    clear HR
    obtain ⟨k, y, hk, rfl, rfl, hy, hal, heq, hrd, hoth⟩ := hrel
    have HRD := hide hrd
    have HOT := hide hoth
    obtain ⟨c0, c1, c2, f1, f2⟩ := hrd.cells
    by_cases hlt : k < width
    · by_cases hend : at' + k = l.length
      · have HF : Hid (rdN l L width 0 at' = (0, at' + k, true)) := hide (by rw [heq.out, show width - k = (width - k - 1) + 1 by omega, rdN, if_pos (by omega)])
        have HFS := hide hrd.stop
        have HOS := hide (hoth.set 2 (.bool true))
        have b1 : (((at' + k : Nat) : Int) == (l.length : Int)) = true := by simp only [beq_iff_eq]; omega
        clear hrd hoth heq
        generalize at' + k = q at *
        go_wp2_with fail
        go_quiet (fail)
        go_wp2_with fail
        go_ret
        exact ⟨by rw [HF.out]; rfl, by rw [HF.out]; exact (HRD.out.same rfl rfl : Rd (wr.drewN nq) rb b off cap l q false).stop, (HOT.out.drewN nq).set 2 _⟩
      · have hx : l.getD (at' + k) 0 < 256 := HBY.out _ (by simp [List.getD, show at' + k < l.length by omega])
        have cb := hrd.dat (at' + k) (by omega)
        have b1 : (((at' + k : Nat) : Int) == (l.length : Int)) = false := by simp only [beq_eq_false_iff_ne]; omega
        have hql : at' + k < l.length := by omega
        obtain ⟨z, lo, p, pm, hi, ez, elo, ehi, z1, z2, z3, z4, q1, q2, q3, q4, q5, q6⟩ := rn_num hlt hw hy hx
        have HST : Hid (rdN l L width 0 at' = if meets L lo hi then rdN l L (width - (k + 1)) z (at' + (k + 1)) else (0, at' + k, true)) := hide (by
          rw [heq.out, show width - k = (width - k - 1) + 1 by omega, rdN, if_neg (by omega), ← ez, ← elo, ← ehi, show width - (k + 1) = width - k - 1 by omega, show at' + (k + 1) = at' + k + 1 by omega])
        have HME := hide fun x (ho : Oth rb w x) => meet_any x _ L lo hi (HSL.out x ho) z3 z4
        clear hrd hoth heq ez elo ehi
        generalize l.getD (at' + k) 0 = x at *
        have hq : at' + k + 1 = at' + (k + 1) := by omega
        have HQ := hide hq
        have hql2 : at' + (k + 1) ≤ l.length := by omega
        have HQL := hide hql2
        clear hq hql2
        generalize at' + k = q at *
        cases hm : meets L lo hi with
        | true =>
          rw [hm] at HME
          have HS2 : Hid (rdN l L width 0 at' = rdN l L (width - (k + 1)) z (at' + (k + 1))) := hide (by rw [HST.out, hm]; rfl)
          clear hm HST
          go_wp2_with fail
          go_quiet (fail)
          go_wp2_with fail
          go_quiet (fail)
          go_wp2_with (go_at_call 39; refine (HME.out _ (HOT.out.drewN _)).mono ?_; rintro e' w2 ⟨rfl, hb2⟩; have HR2 : Hid (Rd w2 rb b off cap l q false) := hide ((HRD.out.same rfl rfl : Rd (wr.drewN _) rb b off cap l q false).below hb2); have HO2 := hide ((HOT.out.drewN _).below hb2); obtain ⟨g0, g1, g2, g3, g4⟩ := HR2.out.cells; clear hb2)
          go_roundw
          case rel => exact ⟨k + 1, z, by omega, by go_num, rfl, z1, HQL.out, HS2, by rw [← HQ.out]; have := HR2.out.go (q + 1); simpa using this, HO2.out.set 1 _⟩
          case measure => simp [intOf]; omega
        | false =>
          rw [hm] at HME
          have HS2 : Hid (rdN l L width 0 at' = (0, q, true)) := hide (by rw [HST.out, hm]; rfl)
          clear hm HST
          go_wp2_with fail
          go_quiet (fail)
          go_wp2_with fail
          go_quiet (fail)
          go_wp2_with (go_at_call 39; refine (HME.out _ (HOT.out.drewN _)).mono ?_; rintro e' w2 ⟨rfl, hb2⟩; have HR2 : Hid (Rd w2 rb b off cap l q false) := hide ((HRD.out.same rfl rfl : Rd (wr.drewN _) rb b off cap l q false).below hb2); have HO2 := hide ((HOT.out.drewN _).below hb2); obtain ⟨g0, g1, g2, g3, g4⟩ := HR2.out.cells; clear hb2)
          go_ret
          exact ⟨by rw [HS2.out]; rfl, by rw [HS2.out]; exact HR2.out.stop, HO2.out.set 2 _⟩
    · obtain rfl : k = width := by omega
      have HF : Hid (rdN l L k 0 at' = (y, at' + k, false)) := hide (by rw [heq.out, Nat.sub_self, rdN])
      clear hrd hoth heq
      go_wp2_with fail
      go_ret
      exact ⟨by rw [HF.out]; rfl, by rw [HF.out]; exact HRD.out, HOT.out⟩
end Go.Proofs.YtedhohamdbplhaaDoor
namespace Go.Proofs.YtedhohamdbplhaaDoor
open Go.RowKit
set_option linter.unusedVariables false
set_option linter.unusedSimpArgs false
set_option maxRecDepth 20000

set_option maxHeartbeats 1000000 in
/-- a number of a reader that is stuck -/
theorem number_stuck (w : World) (rb b off cap at' width : Nat) (l : List Nat) (sa : Option Addr) (sn sc : Nat) (h : Rd w rb b off cap l at' true) (hw : 0 < width) (hw8 : width ≤ 8) :
    Calls Tryd.prog 25 #[.pointer (some ⟨rb, 0, none⟩), .int .i64 (width : Int), .slice sa sn sc] w fun e' w' => e' = .returned (.int .u64 0) ∧ Rd w' rb b off cap l at' true ∧ Oth rb w w' := by
  have HR := hide h
  have hcap := h.h2
  have hlc := h.h1
  unfold maxLen at hcap
  clear h
  go_enter Tryd.func25, Tryd.ntmps25
  go_wp2_with fail
  go_loopw [12] (fun i wr => i = .int .i64 0 ∧ wr = w) (fun _ _ => 0)
  case atStart => exact ⟨rfl, rfl⟩
  case round =>
    obtain ⟨rfl, hwr⟩ := hrel
    subst hwr
    obtain ⟨c0, c1, c2, f1, f2⟩ := HR.out.cells
    have i1 : (0 : Int) < (width : Int) := by omega
    go_wp2_with fail
    go_quiet (fail)
    go_wp2_with fail
    go_ret
    exact ⟨rfl, (HR.out.same rfl rfl : Rd (wr.drewN nq) rb b off cap l at' true).stop, ((Oth.refl rb wr).drewN nq).set 2 _⟩

/-- a number read or not: what a reader says, stuck or not -/
def rdS (l : List Nat) (L : List (Nat × Nat)) (width at' : Nat) (stuck : Bool) : Nat × Nat × Bool := if stuck = true then (0, at', true) else rdN l L width 0 at'
theorem number_all (w : World) (rb b off cap at' width : Nat) (l : List Nat) (L : List (Nat × Nat)) (v : Value) (stuck : Bool) (h : Rd w rb b off cap l at' stuck) (hs : SpL w v L) (hne : v.ownBlock ≠ some rb) (hw : 0 < width) (hw8 : width ≤ 8) (ha : at' ≤ l.length) :
    Calls Tryd.prog 25 #[.pointer (some ⟨rb, 0, none⟩), .int .i64 (width : Int), v] w fun e' w' => e' = .returned (.int .u64 ((rdS l L width at' stuck).1 : Nat)) ∧ Rd w' rb b off cap l (rdS l L width at' stuck).2.1 (rdS l L width at' stuck).2.2 ∧ Oth rb w w' := by
  cases stuck with
  | false => exact number_any w rb b off cap at' width l L v h hs hne hw8 ha
  | true =>
    obtain ⟨sb, soff, scap, rfl, _⟩ := id hs
    exact number_stuck w rb b off cap at' width l _ _ _ h hw hw8

set_option maxHeartbeats 1000000 in
theorem ident_any (w : World) (rb b off cap at' : Nat) (l : List Nat) (stuck : Bool) (h : Rd w rb b off cap l at' stuck) (ha : at' ≤ l.length) :
    Calls Tryd.prog 41 #[.pointer (some ⟨rb, 0, none⟩)] w fun e' w' => e' = .returned (.int .u64 ((rdS l [(0, 18446744073709551615)] 8 at' stuck).1 : Nat)) ∧ Rd w' rb b off cap l (rdS l [(0, 18446744073709551615)] 8 at' stuck).2.1 (rdS l [(0, 18446744073709551615)] 8 at' stuck).2.2 ∧ Oth rb w w' := by
  have hrl := (Array.getElem?_eq_some_iff.1 h.row).1
  have HB := hide ((Below.refl w.heap.size w).alloc (Nat.le_refl _) (.cells #[.int .u64 0, .int .u64 18446744073709551615] 74))
  have HO := hide ((Oth.refl rb w).below HB.out)
  have HN := hide (number_all _ rb b off cap at' 8 l [(0, 18446744073709551615)] _ stuck (h.below HB.out) (SpL.one (w := w) 0 18446744073709551615 (by decide) (by decide) 74) (by simp only [Value.ownBlock, ne_eq, Option.some.injEq]; omega) (by decide) (by decide) ha)
  generalize rdS l [(0, 18446744073709551615)] 8 at' stuck = r at *
  clear h
  go_enter Tryd.func41, Tryd.ntmps41
  go_wp2_with (go_at_call 25; go_loud (refine HN.out.mono ?_); rintro e' w2 ⟨rfl, hr2, ho2⟩; have HR2 := hide hr2; have HO2 : Hid (Oth rb w w2) := hide ⟨ho2.os.trans HO.out.os, ho2.tape.trans HO.out.tape, ho2.output.trans HO.out.output, Nat.le_trans HO.out.size ho2.size, fun j h1 h2 => (ho2.block j (Nat.lt_of_lt_of_le h1 HO.out.size) h2).trans (HO.out.block j h1 h2)⟩; clear hr2 ho2)
  go_ret
  exact ⟨rfl, HR2.out, HO2.out⟩
end Go.Proofs.YtedhohamdbplhaaDoor
namespace Go.Proofs.YtedhohamdbplhaaDoor
open Go.RowKit
open Num
set_option linter.unusedVariables false
set_option linter.unusedSimpArgs false

set_option maxHeartbeats 1000000 in
theorem cloneB_any (v : Value) (l : List Nat) (w : World) (h : BSl w v l) (hp : 0 < l.length) (hr : l.length ≤ 140737488355328) :
    Calls Tryd.prog 35 #[v] w fun e w' => ∃ v', e = .returned v' ∧ Own w' w.heap.size v' l ∧ Below w.heap.size w w' := by
  have hmade : (w.alloc (.cells #[] 5)).ownsRow w.heap.size 5 1 (.slice (some ⟨w.heap.size, 0, none⟩) 0 0) 0 [] := World.ownsRow_made w #[] 0 (Nat.le_refl _) (by unfold maxLen; omega) rfl
  have HM : Hid (Own (w.alloc (.cells #[] 5)) w.heap.size (.slice (some ⟨w.heap.size, 0, none⟩) 0 0) []) := hide ⟨hmade, by simp⟩
  have HBE := hide ((Below.refl w.heap.size w).alloc (Nat.le_refl _) (.cells #[] 5))
  have HN := hide (h.below HBE.out)
  obtain ⟨a, cap, rfl, hl, hm, hn, hb, hcell⟩ := id h
  obtain ⟨b, off, rfl, _⟩ := hcell hp
  have hsn := fun wx => Lib.run_eql_slice_nil (P := Tryd.prog) wx 34 5 (some ⟨b, off, none⟩) l.length cap 0 0 Tryd.underlying34
  clear hcell hb hn hmade h
  rename_i dead1
  clear dead1
  go_enter Tryd.func35, Tryd.ntmps35
  go_wp2_with (at_builtin; refine wpList_app rfl (.tmp 5) (.tmp 6) rfl w.heap.size _ _ [] l rfl rfl HM.out HN.out (by simpa using hr) (by simp) ?_)
  intro v' w1 ho hb' hs _
  have HR := hide ho
  have HR2 := hide (HBE.out.trans hb')
  clear ho hb'
  go_wp2
  go_ret
  exact ⟨_, rfl, HR.out, HR2.out⟩
end Go.Proofs.YtedhohamdbplhaaDoor
namespace Go.Proofs.YtedhohamdbplhaaDoor
open Go.RowKit
set_option linter.unusedVariables false
set_option linter.unusedSimpArgs false
set_option maxRecDepth 20000

set_option maxHeartbeats 1000000 in
theorem take_none (w : World) (rb b off cap at' c : Nat) (l : List Nat) (stuck : Bool) (h : Rd w rb b off cap l at' stuck) (hc : c ≤ 65535) (h0 : stuck = true ∨ c = 0) :
    Calls Tryd.prog 43 #[.pointer (some ⟨rb, 0, none⟩), .int .i64 (c : Int)] w fun e' w' => e' = .returned (.slice none 0 0) ∧ Rd w' rb b off cap l at' stuck ∧ Oth rb w w' := by
  have HR := hide h
  obtain ⟨c0, c1, c2, f1, f2⟩ := h.cells
  clear h
  cases stuck with
  | true =>
    go_enter Tryd.func43, Tryd.ntmps43
    go_wp2
    repeat (go_quiet (fail); go_wp2)
    go_ret
    exact ⟨rfl, by first | exact HR.out | exact HR.out.same rfl rfl, by first | exact Oth.refl _ _ | exact (Oth.refl _ _).drewN _⟩
  | false =>
    obtain rfl : c = 0 := by simpa using h0
    go_enter Tryd.func43, Tryd.ntmps43
    go_wp2
    repeat (go_quiet (fail); go_wp2)
    go_ret
    exact ⟨rfl, by first | exact HR.out | exact HR.out.same rfl rfl, by first | exact Oth.refl _ _ | exact (Oth.refl _ _).drewN _⟩
end Go.Proofs.YtedhohamdbplhaaDoor
namespace Go.Proofs.YtedhohamdbplhaaDoor
open Go.RowKit
set_option linter.unusedVariables false
set_option linter.unusedSimpArgs false
set_option maxRecDepth 20000

/-- a field of a packet -/
inductive Fd where
  | num (n : Nat)
  | ids
  | sum (tied : Bool)
  | dat (lo hi : Nat) (tied : Bool)
/-- as a value of the program -/
def Fd.val : Fd → Value
  | .num n => .iface 92 (.int .i64 (n : Int))
  | .ids => .iface 98 (.agg #[])
  | .sum t => .iface 96 (.agg #[.bool t])
  | .dat lo hi t => .iface 94 (.agg #[.int .u64 (lo : Int), .int .u64 (hi : Int), .bool t])
/-- one that may stand in the table -/
def Fd.Ok : Fd → Prop
  | .num n => n < 18
  | .ids => True
  | .sum _ => True
  | .dat lo hi _ => lo < 65536 ∧ hi < 65536
/-- the fields of a command -/
def fdL (c : Nat) : List Fd := ([[], [.num 0, .num 1, .num 4], [.dat 16 16 false], [.sum false], [.num 2, .num 3, .num 4], [.num 5, .num 6, .ids], [.num 7], [.num 8, .num 9, .dat 1 256 false], [.num 10, .num 11, .num 12, .dat 1 1024 false], [.num 10, .num 11, .num 12], [.num 10, .num 11], [.num 10, .num 11], [.num 10, .num 11, .num 14], [.num 12, .num 13], [.num 12, .num 13], [.num 10, .num 11, .num 16, .sum true], [.num 10, .num 11], [.num 10, .num 11, .dat 1 1024 false], [.num 10, .num 11], [.num 17], [.num 10, .num 11, .sum false], [.num 10, .num 11, .num 16], [.num 17], [.ids], [.num 10, .num 11], [.num 10, .num 11, .num 15, .dat 1 1024 true]] : List (List Fd)).getD c []
theorem fldL_fdL (c : Nat) (hc : c ≤ 25) : fldL c = (fdL c).map Fd.val := by
  rcases (show c = 0 ∨ c = 1 ∨ c = 2 ∨ c = 3 ∨ c = 4 ∨ c = 5 ∨ c = 6 ∨ c = 7 ∨ c = 8 ∨ c = 9 ∨ c = 10 ∨ c = 11 ∨ c = 12 ∨ c = 13 ∨ c = 14 ∨ c = 15 ∨ c = 16 ∨ c = 17 ∨ c = 18 ∨ c = 19 ∨ c = 20 ∨ c = 21 ∨ c = 22 ∨ c = 23 ∨ c = 24 ∨ c = 25 by omega) with rfl | rfl | rfl | rfl | rfl | rfl | rfl | rfl | rfl | rfl | rfl | rfl | rfl | rfl | rfl | rfl | rfl | rfl | rfl | rfl | rfl | rfl | rfl | rfl | rfl | rfl <;> rfl
theorem fdL_ok (c : Nat) : ∀ f ∈ fdL c, f.Ok := by
  by_cases hc : c ≤ 25
  · rcases (show c = 0 ∨ c = 1 ∨ c = 2 ∨ c = 3 ∨ c = 4 ∨ c = 5 ∨ c = 6 ∨ c = 7 ∨ c = 8 ∨ c = 9 ∨ c = 10 ∨ c = 11 ∨ c = 12 ∨ c = 13 ∨ c = 14 ∨ c = 15 ∨ c = 16 ∨ c = 17 ∨ c = 18 ∨ c = 19 ∨ c = 20 ∨ c = 21 ∨ c = 22 ∨ c = 23 ∨ c = 24 ∨ c = 25 by omega) with rfl | rfl | rfl | rfl | rfl | rfl | rfl | rfl | rfl | rfl | rfl | rfl | rfl | rfl | rfl | rfl | rfl | rfl | rfl | rfl | rfl | rfl | rfl | rfl | rfl | rfl <;> simp [fdL, Fd.Ok]
  · intro f hf
    have : fdL c = [] := by unfold fdL; rw [List.getD_eq_getElem?_getD, List.getElem?_eq_none (by simp; omega)]; rfl
    rw [this] at hf; cases hf
theorem fdL_len (c : Nat) : (fdL c).length ≤ 4 := by
  by_cases hc : c ≤ 25
  · rcases (show c = 0 ∨ c = 1 ∨ c = 2 ∨ c = 3 ∨ c = 4 ∨ c = 5 ∨ c = 6 ∨ c = 7 ∨ c = 8 ∨ c = 9 ∨ c = 10 ∨ c = 11 ∨ c = 12 ∨ c = 13 ∨ c = 14 ∨ c = 15 ∨ c = 16 ∨ c = 17 ∨ c = 18 ∨ c = 19 ∨ c = 20 ∨ c = 21 ∨ c = 22 ∨ c = 23 ∨ c = 24 ∨ c = 25 by omega) with rfl | rfl | rfl | rfl | rfl | rfl | rfl | rfl | rfl | rfl | rfl | rfl | rfl | rfl | rfl | rfl | rfl | rfl | rfl | rfl | rfl | rfl | rfl | rfl | rfl | rfl <;> simp [fdL]
  · have : fdL c = [] := by unfold fdL; rw [List.getD_eq_getElem?_getD, List.getElem?_eq_none (by simp; omega)]; rfl
    rw [this]; simp

/-- a packet's parts -/
structure PV where
  a : Nat
  b : Nat
  c : Nat
  d : Nat
  e : Nat
  g0 : Nat
  g1 : Nat
  g2 : Nat
  g3 : Nat
  s : List Nat
  dl : List Nat
def PV.get (p : PV) (i : Nat) : Nat := five p.a p.b p.c p.d p.e i
def PV.set (p : PV) (i x : Nat) : PV := match i with
  | 0 => { p with a := x }
  | 1 => { p with b := x }
  | 2 => { p with c := x }
  | 3 => { p with d := x }
  | 4 => { p with e := x }
  | _ => p
def PV.zero : PV := ⟨0, 0, 0, 0, 0, 0, 0, 0, 0, List.replicate 32 0, []⟩
/-- its numbers are within their kinds -/
structure PV.Ok (p : PV) : Prop where
  a : p.a < 4294967296
  b : p.b < 4294967296
  c : p.c < 4294967296
  d : p.d < 4294967296
  e : p.e < 4294967296
  g0 : p.g0 < 18446744073709551616
  g1 : p.g1 < 18446744073709551616
  g2 : p.g2 < 18446744073709551616
  g3 : p.g3 < 18446744073709551616
  n : p.s.length = 32
  s : ∀ x ∈ p.s, x < 256
theorem PV.Ok.get {p : PV} (h : p.Ok) (i : Nat) : p.get i < 4294967296 := by
  have h1 := h.a; have h2 := h.b; have h3 := h.c; have h4 := h.d; have h5 := h.e
  unfold PV.get five
  match i with
  | 0 => exact h1
  | 1 => exact h2
  | 2 => exact h3
  | 3 => exact h4
  | 4 => exact h5
  | n + 5 => simp [List.getD]
theorem PV.Ok.set {p : PV} (h : p.Ok) (i x : Nat) (hx : x < 4294967296) : (p.set i x).Ok := by
  obtain ⟨h1, h2, h3, h4, h5, h6, h7, h8, h9, h10, h11⟩ := h
  match i with
  | 0 => exact ⟨hx, h2, h3, h4, h5, h6, h7, h8, h9, h10, h11⟩
  | 1 => exact ⟨h1, hx, h3, h4, h5, h6, h7, h8, h9, h10, h11⟩
  | 2 => exact ⟨h1, h2, hx, h4, h5, h6, h7, h8, h9, h10, h11⟩
  | 3 => exact ⟨h1, h2, h3, hx, h5, h6, h7, h8, h9, h10, h11⟩
  | 4 => exact ⟨h1, h2, h3, h4, hx, h6, h7, h8, h9, h10, h11⟩
  | n + 5 => exact ⟨h1, h2, h3, h4, h5, h6, h7, h8, h9, h10, h11⟩
theorem PV.zero_ok : PV.zero.Ok := ⟨by decide, by decide, by decide, by decide, by decide, by decide, by decide, by decide, by decide, by decide, by decide⟩

/-- may what the packet has there stand there? -/
def fitF (p : PV) : Fd → Bool
  | .num n => meets (mayL n p.a p.b) (p.get (bnd n).1) (p.get (bnd n).1)
  | .ids => true
  | .sum t => p.s.all fun x => meets (smayL t p.e) x x
  | .dat lo hi t => meets (dmayL lo hi t p.e) p.dl.length p.dl.length
/-- without what it has there -/
def blankF (p : PV) : Fd → PV
  | .num n => p.set (bnd n).1 0
  | .ids => { p with g0 := 0, g1 := 0, g2 := 0, g3 := 0 }
  | .sum _ => { p with s := List.replicate 32 0 }
  | .dat _ _ _ => { p with dl := [] }
theorem blankF_ok {p : PV} (h : p.Ok) (f : Fd) : (blankF p f).Ok := by
  cases f with
  | num n => exact h.set _ _ (by decide)
  | ids => obtain ⟨h1, h2, h3, h4, h5, h6, h7, h8, h9, h10, h11⟩ := h; exact ⟨h1, h2, h3, h4, h5, (by decide : (0 : Nat) < 18446744073709551616), (by decide : (0 : Nat) < 18446744073709551616), (by decide : (0 : Nat) < 18446744073709551616), (by decide : (0 : Nat) < 18446744073709551616), h10, h11⟩
  | sum t => obtain ⟨h1, h2, h3, h4, h5, h6, h7, h8, h9, h10, h11⟩ := h; exact ⟨h1, h2, h3, h4, h5, h6, h7, h8, h9, (by decide : (List.replicate 32 0).length = 32), by intro x hx; have := List.eq_of_mem_replicate hx; omega⟩
  | dat _ _ _ => obtain ⟨h1, h2, h3, h4, h5, h6, h7, h8, h9, h10, h11⟩ := h; exact ⟨h1, h2, h3, h4, h5, h6, h7, h8, h9, h10, h11⟩
def PV.empty (p : PV) : Bool := (p.a == 0 && p.b == 0 && p.c == 0 && p.d == 0 && p.e == 0) && (p.g0 == 0 && p.g1 == 0 && p.g2 == 0 && p.g3 == 0) && p.s.all (· == 0) && p.dl.isEmpty
/-- does each field have what it may have, and nothing stand beside them? -/
def fitAll (p : PV) (fs : List Fd) : Bool := fs.all (fitF p) && (fs.foldl blankF p).empty
/-- the bytes of a field -/
def encF (p : PV) : Fd → List Nat
  | .num n => be (p.get (bnd n).1) 4
  | .ids => be p.g0 8 ++ be p.g1 8 ++ be p.g2 8 ++ be p.g3 8
  | .sum _ => p.s
  | .dat _ _ _ => be p.dl.length 2 ++ p.dl
def encAll (p : PV) (fs : List Fd) : List Nat := fs.flatMap (encF p)
/-- why a packet has no bytes -/
def perr (c : Int) (p : PV) : Nat := if c < 1 ∨ 25 < c then 74 else if fitAll p (fdL c.toNat) then 0 else 75
/-- a packet's bytes -/
def pbytes (c : Int) (p : PV) : List Nat := if perr c p = 0 then c.toNat :: encAll p (fdL c.toNat) else []

/-- the cells of a packet's parts -/
def PV.row (p : PV) (v : Value) : List Value := [.int .u32 (p.a : Int), .int .u32 (p.b : Int), .int .u32 (p.c : Int), .int .u32 (p.d : Int), .int .u32 (p.e : Int), .int .u64 (p.g0 : Int), .int .u64 (p.g1 : Int), .int .u64 (p.g2 : Int), .int .u64 (p.g3 : Int)] ++ p.s.map (fun (x : Nat) => Value.int .u8 (x : Int)) ++ [v]
/-- parts in memory -/
structure PM (w : World) (pb : Nat) (p : PV) (v : Value) : Prop where
  row : w.heap[pb]? = some (.cells (p.row v).toArray 79 (0, 0))
  ok : p.Ok
  dat : BSl w v p.dl
  ne : v.ownBlock ≠ some pb

end Go.Proofs.YtedhohamdbplhaaDoor
namespace Go.Proofs.YtedhohamdbplhaaDoor
open Go.RowKit
set_option linter.unusedVariables false
set_option linter.unusedSimpArgs false
set_option maxRecDepth 20000

/-- a packet as a value -/
def pkV (c : Int) (p : PV) (v : Value) : Value := .agg (.int .i64 c :: p.row v).toArray
theorem list32 {s : List Nat} (h : s.length = 32) : ∃ s0 s1 s2 s3 s4 s5 s6 s7 s8 s9 s10 s11 s12 s13 s14 s15 s16 s17 s18 s19 s20 s21 s22 s23 s24 s25 s26 s27 s28 s29 s30 s31 : Nat, s = [s0, s1, s2, s3, s4, s5, s6, s7, s8, s9, s10, s11, s12, s13, s14, s15, s16, s17, s18, s19, s20, s21, s22, s23, s24, s25, s26, s27, s28, s29, s30, s31] := by
  match s, h with
  | [s0, s1, s2, s3, s4, s5, s6, s7, s8, s9, s10, s11, s12, s13, s14, s15, s16, s17, s18, s19, s20, s21, s22, s23, s24, s25, s26, s27, s28, s29, s30, s31], _ => exact ⟨s0, s1, s2, s3, s4, s5, s6, s7, s8, s9, s10, s11, s12, s13, s14, s15, s16, s17, s18, s19, s20, s21, s22, s23, s24, s25, s26, s27, s28, s29, s30, s31, rfl⟩
def u8L (s : List Nat) : List Value := s.map fun (x : Nat) => Value.int .u8 (x : Int)
theorem row_eq (p : PV) (v : Value) : p.row v = [.int .u32 (p.a : Int), .int .u32 (p.b : Int), .int .u32 (p.c : Int), .int .u32 (p.d : Int), .int .u32 (p.e : Int), .int .u64 (p.g0 : Int), .int .u64 (p.g1 : Int), .int .u64 (p.g2 : Int), .int .u64 (p.g3 : Int)] ++ u8L p.s ++ [v] := rfl
theorem u8L_len (s : List Nat) : (u8L s).length = s.length := by simp [u8L]
theorem row_len {p : PV} (h : p.s.length = 32) (v : Value) : (p.row v).length = 42 := by rw [row_eq]; simp [u8L_len, h]
theorem row_sum (p : PV) (v : Value) {j : Nat} {x : Value} (h : (u8L p.s)[j]? = some x) : (p.row v)[9 + j]? = some x := by
  have hj : j < (u8L p.s).length := by
    rcases Nat.lt_or_ge j (u8L p.s).length with h1 | h1
    · exact h1
    · rw [List.getElem?_eq_none h1] at h; cases h
  rw [row_eq, List.append_assoc, List.getElem?_append_right (by simp), List.getElem?_append_left (by simpa using hj)]
  simpa using h
theorem row_dat {p : PV} (h : p.s.length = 32) (v : Value) : (p.row v)[41]? = some v := by
  rw [row_eq, List.getElem?_append_right (by simp [u8L_len, h])]
  simp [u8L_len, h]

theorem PM.five {w : World} {pb : Nat} {p : PV} {v : Value} (h : PM w pb p v) : P5 w pb p.a p.b p.c p.d p.e :=
  ⟨by rw [cell_of_row _ _ _ _ _ _ h.row]; rfl, by rw [cell_of_row _ _ _ _ _ _ h.row]; rfl, by rw [cell_of_row _ _ _ _ _ _ h.row]; rfl, by rw [cell_of_row _ _ _ _ _ _ h.row]; rfl, by rw [cell_of_row _ _ _ _ _ _ h.row]; rfl⟩
theorem PM.gens {w : World} {pb : Nat} {p : PV} {v : Value} (h : PM w pb p v) : w.cell? ⟨pb, 5, none⟩ = some (.int .u64 (p.g0 : Int)) ∧ w.cell? ⟨pb, 6, none⟩ = some (.int .u64 (p.g1 : Int)) ∧ w.cell? ⟨pb, 7, none⟩ = some (.int .u64 (p.g2 : Int)) ∧ w.cell? ⟨pb, 8, none⟩ = some (.int .u64 (p.g3 : Int)) :=
  ⟨by rw [cell_of_row _ _ _ _ _ _ h.row]; rfl, by rw [cell_of_row _ _ _ _ _ _ h.row]; rfl, by rw [cell_of_row _ _ _ _ _ _ h.row]; rfl, by rw [cell_of_row _ _ _ _ _ _ h.row]; rfl⟩
theorem PM.rng {w : World} {pb : Nat} {p : PV} {v : Value} (h : PM w pb p v) : w.rangeAt pb 9 (u8L p.s) := fun j x hx => by
  rw [cell_of_row _ _ _ _ _ _ h.row, List.getElem?_toArray]
  exact row_sum p v hx
theorem PM.dcell {w : World} {pb : Nat} {p : PV} {v : Value} (h : PM w pb p v) : w.cell? ⟨pb, 41, none⟩ = some v := by
  rw [cell_of_row _ _ _ _ _ _ h.row, List.getElem?_toArray]
  exact row_dat h.ok.n v
theorem PM.fz {w : World} {pb : Nat} {p : PV} {v : Value} (h : PM w pb p v) (i : Nat) : w.frozen? ⟨pb, i, none⟩ = false := frozen_of_row _ _ _ _ _ h.row
theorem PM.lt {w : World} {pb : Nat} {p : PV} {v : Value} (h : PM w pb p v) : pb < w.heap.size := (Array.getElem?_eq_some_iff.1 h.row).1
theorem PM.below {w x : World} {pb : Nat} {p : PV} {v : Value} (h : PM w pb p v) (hb : Below w.heap.size w x) : PM x pb p v :=
  ⟨(hb.block _ h.lt).trans h.row, h.ok, h.dat.below hb, h.ne⟩
/-- the number at a place -/
theorem PM.setN {w : World} {pb : Nat} {p : PV} {v : Value} (h : PM w pb p v) (i x : Nat) (hi : i < 5) (hx : x < 4294967296) : PM (w.setCell ⟨pb, i, none⟩ (.int .u32 (x : Int))) pb (p.set i x) v := by
  have hk := Go.heap_setCell_same w pb i _ 79 (.int .u32 (x : Int)) h.row
  have hd : BSl (w.setCell ⟨pb, i, none⟩ (.int .u32 (x : Int))) v p.dl := h.dat.stay fun g hg => Go.heap_setCell_other _ _ _ _ (by intro e; exact h.ne (by rw [hg]; exact congrArg some e))
  have hrow : ((p.row v).toArray.setIfInBounds i (.int .u32 (x : Int))) = ((p.set i x).row v).toArray := by
    rw [List.setIfInBounds_toArray]
    match i, hi with
    | 0, _ => rfl
    | 1, _ => rfl
    | 2, _ => rfl
    | 3, _ => rfl
    | 4, _ => rfl
  rw [hrow] at hk
  have hdl : (p.set i x).dl = p.dl := by
    match i with
    | 0 => rfl
    | 1 => rfl
    | 2 => rfl
    | 3 => rfl
    | 4 => rfl
    | n + 5 => rfl
  exact ⟨hk, h.ok.set i x hx, by rw [hdl]; exact hd, h.ne⟩
/-- four identifiers -/
theorem PM.setG {w : World} {pb : Nat} {p : PV} {v : Value} (h : PM w pb p v) (a b c d : Nat) (ha : a < 18446744073709551616) (hb : b < 18446744073709551616) (hc : c < 18446744073709551616) (hd : d < 18446744073709551616) : PM ((((w.setCell ⟨pb, 5, none⟩ (.int .u64 (a : Int))).setCell ⟨pb, 6, none⟩ (.int .u64 (b : Int))).setCell ⟨pb, 7, none⟩ (.int .u64 (c : Int))).setCell ⟨pb, 8, none⟩ (.int .u64 (d : Int))) pb { p with g0 := a, g1 := b, g2 := c, g3 := d } v := by
  have k1 := Go.heap_setCell_same w pb 5 _ 79 (.int .u64 (a : Int)) h.row
  have k2 := Go.heap_setCell_same _ pb 6 _ 79 (.int .u64 (b : Int)) k1
  have k3 := Go.heap_setCell_same _ pb 7 _ 79 (.int .u64 (c : Int)) k2
  have k4 := Go.heap_setCell_same _ pb 8 _ 79 (.int .u64 (d : Int)) k3
  have hbl : ∀ g, v.ownBlock = some g → ((((w.setCell ⟨pb, 5, none⟩ (.int .u64 (a : Int))).setCell ⟨pb, 6, none⟩ (.int .u64 (b : Int))).setCell ⟨pb, 7, none⟩ (.int .u64 (c : Int))).setCell ⟨pb, 8, none⟩ (.int .u64 (d : Int))).heap[g]? = w.heap[g]? := fun g hg => by
    have hne : g ≠ pb := fun e => h.ne (by rw [hg, e])
    rw [Go.heap_setCell_other _ _ _ _ (by exact hne), Go.heap_setCell_other _ _ _ _ (by exact hne), Go.heap_setCell_other _ _ _ _ (by exact hne), Go.heap_setCell_other _ _ _ _ (by exact hne)]
  have hrow : (((((p.row v).toArray.setIfInBounds 5 (.int .u64 (a : Int))).setIfInBounds 6 (.int .u64 (b : Int))).setIfInBounds 7 (.int .u64 (c : Int))).setIfInBounds 8 (.int .u64 (d : Int))) = (PV.row { p with g0 := a, g1 := b, g2 := c, g3 := d } v).toArray := by
    simp only [List.setIfInBounds_toArray]
    rfl
  rw [hrow] at k4
  obtain ⟨h1, h2, h3, h4, h5, h6, h7, h8, h9, h10, h11⟩ := h.ok
  exact ⟨k4, ⟨h1, h2, h3, h4, h5, ha, hb, hc, hd, h10, h11⟩, h.dat.stay hbl, h.ne⟩
/-- data -/
theorem PM.setD {w : World} {pb : Nat} {p : PV} {v : Value} (h : PM w pb p v) (v' : Value) (l : List Nat) (hd : BSl w v' l) (hne : v'.ownBlock ≠ some pb) : PM (w.setCell ⟨pb, 41, none⟩ v') pb { p with dl := l } v' := by
  have hk := Go.heap_setCell_same w pb 41 _ 79 v' h.row
  have hrow : ((p.row v).toArray.setIfInBounds 41 v') = (PV.row { p with dl := l } v').toArray := by
    rw [List.setIfInBounds_toArray, row_eq, row_eq, List.set_append_right _ _ (by simp [u8L_len, h.ok.n])]
    simp [u8L_len, h.ok.n]
  rw [hrow] at hk
  obtain ⟨h1, h2, h3, h4, h5, h6, h7, h8, h9, h10, h11⟩ := h.ok
  exact ⟨hk, ⟨h1, h2, h3, h4, h5, h6, h7, h8, h9, h10, h11⟩, hd.stay fun g hg => Go.heap_setCell_other _ _ _ _ (by intro e; exact hne (by rw [hg]; exact congrArg some e)), hne⟩

theorem infoP : (Tryd.prog.info? 79).map (·.size) = some 42 := by kernel_rfl
theorem infoS : (Tryd.prog.info? 33).map (·.size) = some 32 := by kernel_rfl
theorem infoG : (Tryd.prog.info? 32).map (·.size) = some 4 := by kernel_rfl
theorem infoK : (Tryd.prog.info? 36).map (·.size) = some 43 := by kernel_rfl
theorem built_parts' (p : PV) (h : p.s.length = 32) (da : Option Addr) (dn dc : Nat) : Tryd.prog.built 79 [(0, .agg #[.int .u32 (p.a : Int), .int .u32 (p.b : Int), .int .u32 (p.c : Int), .int .u32 (p.d : Int), .int .u32 (p.e : Int)]), (1, .agg #[.int .u64 (p.g0 : Int), .int .u64 (p.g1 : Int), .int .u64 (p.g2 : Int), .int .u64 (p.g3 : Int)]), (2, .agg (u8L p.s).toArray), (3, .slice da dn dc)] = some (p.row (.slice da dn dc)).toArray := by
  obtain ⟨a, b, c', d, e, g0, g1, g2, g3, s, dl⟩ := p
  obtain ⟨s0, s1, s2, s3, s4, s5, s6, s7, s8, s9, s10, s11, s12, s13, s14, s15, s16, s17, s18, s19, s20, s21, s22, s23, s24, s25, s26, s27, s28, s29, s30, s31, rfl⟩ := list32 h
  kernel_rfl
end Go.Proofs.YtedhohamdbplhaaDoor
namespace Go.Proofs.YtedhohamdbplhaaDoor
open Go.RowKit
set_option linter.unusedVariables false
set_option linter.unusedSimpArgs false
set_option maxRecDepth 20000

/-- a packet's box -/
structure KM (w : World) (kb : Nat) (c : Int) (p : PV) (v : Value) : Prop where
  row : w.heap[kb]? = some (.cells (.int .i64 c :: p.row v).toArray 36 (0, 0))
  ok : p.Ok
theorem KM.cells {w : World} {kb : Nat} {c : Int} {p : PV} {v : Value} (h : KM w kb c p v) : w.cell? ⟨kb, 0, none⟩ = some (.int .i64 c) ∧ w.cell? ⟨kb, 1, none⟩ = some (.int .u32 (p.a : Int)) ∧ w.cell? ⟨kb, 2, none⟩ = some (.int .u32 (p.b : Int)) ∧ w.cell? ⟨kb, 3, none⟩ = some (.int .u32 (p.c : Int)) ∧ w.cell? ⟨kb, 4, none⟩ = some (.int .u32 (p.d : Int)) ∧ w.cell? ⟨kb, 5, none⟩ = some (.int .u32 (p.e : Int)) ∧ w.cell? ⟨kb, 6, none⟩ = some (.int .u64 (p.g0 : Int)) ∧ w.cell? ⟨kb, 7, none⟩ = some (.int .u64 (p.g1 : Int)) ∧ w.cell? ⟨kb, 8, none⟩ = some (.int .u64 (p.g2 : Int)) ∧ w.cell? ⟨kb, 9, none⟩ = some (.int .u64 (p.g3 : Int)) :=
  ⟨by rw [cell_of_row _ _ _ _ _ _ h.row]; rfl, by rw [cell_of_row _ _ _ _ _ _ h.row]; rfl, by rw [cell_of_row _ _ _ _ _ _ h.row]; rfl, by rw [cell_of_row _ _ _ _ _ _ h.row]; rfl, by rw [cell_of_row _ _ _ _ _ _ h.row]; rfl, by rw [cell_of_row _ _ _ _ _ _ h.row]; rfl, by rw [cell_of_row _ _ _ _ _ _ h.row]; rfl, by rw [cell_of_row _ _ _ _ _ _ h.row]; rfl, by rw [cell_of_row _ _ _ _ _ _ h.row]; rfl, by rw [cell_of_row _ _ _ _ _ _ h.row]; rfl⟩
theorem KM.rng {w : World} {kb : Nat} {c : Int} {p : PV} {v : Value} (h : KM w kb c p v) : w.rangeAt kb 10 (u8L p.s) := fun j x hx => by
  rw [cell_of_row _ _ _ _ _ _ h.row, List.getElem?_toArray, show 10 + j = (9 + j) + 1 by omega, List.getElem?_cons_succ]
  exact row_sum p v hx
theorem KM.dat {w : World} {kb : Nat} {c : Int} {p : PV} {v : Value} (h : KM w kb c p v) : w.cell? ⟨kb, 42, none⟩ = some v := by
  rw [cell_of_row _ _ _ _ _ _ h.row, List.getElem?_toArray, List.getElem?_cons_succ]
  exact row_dat h.ok.n v
theorem KM.all {w : World} {kb : Nat} {c : Int} {p : PV} {v : Value} (h : KM w kb c p v) : w.rangeAt kb 0 (.int .i64 c :: p.row v) := fun j x hx => by
  rw [cell_of_row _ _ _ _ _ _ h.row, List.getElem?_toArray, Nat.zero_add]; exact hx
theorem KM.below {w x : World} {kb : Nat} {c : Int} {p : PV} {v : Value} (h : KM w kb c p v) (hb : Below w.heap.size w x) : KM x kb c p v :=
  ⟨(hb.block _ (Array.getElem?_eq_some_iff.1 h.row).1).trans h.row, h.ok⟩

set_option maxHeartbeats 1000000 in
theorem partsOf_any (w : World) (c : Int) (p : PV) (da : Option Addr) (dn dc : Nat) (hp : p.Ok) (hd : BSl w (.slice da dn dc) p.dl) (hlt : ∀ g, (Value.slice da dn dc).ownBlock = some g → g < w.heap.size) :
    Calls Tryd.prog 22 #[pkV c p (.slice da dn dc)] w fun e' w' => ∃ pb, e' = .returned (.pointer (some ⟨pb, 0, none⟩)) ∧ PM w' pb p (.slice da dn dc) ∧ w.heap.size ≤ pb ∧ Below w.heap.size w w' := by
  have HB : Hid (∀ L, L = [(0, .agg #[.int .u32 (p.a : Int), .int .u32 (p.b : Int), .int .u32 (p.c : Int), .int .u32 (p.d : Int), .int .u32 (p.e : Int)]), (1, .agg #[.int .u64 (p.g0 : Int), .int .u64 (p.g1 : Int), .int .u64 (p.g2 : Int), .int .u64 (p.g3 : Int)]), (2, .agg (u8L p.s).toArray), (3, .slice da dn dc)] → Tryd.prog.built 79 L = some (p.row (.slice da dn dc)).toArray) := hide (fun L hL => by rw [hL]; exact built_parts' p hp.n da dn dc)
  have HK : Hid (KM (w.alloc (.cells (.int .i64 c :: p.row (.slice da dn dc)).toArray 36)) w.heap.size c p (.slice da dn dc)) := hide ⟨Go.heap_alloc_new w _, hp⟩
  have HY := hide ((Below.refl w.heap.size w).alloc (Nat.le_refl _) (.cells (.int .i64 c :: p.row (.slice da dn dc)).toArray 36))
  unfold pkV
  have HSZ : Hid ((w.alloc (.cells (.int .i64 c :: p.row (.slice da dn dc)).toArray 36)).heap.size = w.heap.size + 1) := hide (by simp)
  have HFIN : Hid (∀ y : World, Below w.heap.size w y → y.heap.size = w.heap.size + 1 → PM (y.alloc (.cells (p.row (.slice da dn dc)).toArray 79)) (w.heap.size + 1) p (.slice da dn dc)) := hide fun y hb hs => by
    have hb2 : Below w.heap.size w (y.alloc (.cells (p.row (.slice da dn dc)).toArray 79)) := hb.alloc hb.size _
    exact ⟨by rw [← hs]; exact Go.heap_alloc_new y _, hp, hd.below hb2, fun e => by have := hlt _ e; omega⟩
  generalize (.int .i64 c :: p.row (.slice da dn dc)).toArray = CS at *
  generalize hrow : (p.row (.slice da dn dc)).toArray = RS at *
  obtain ⟨k0, k1, k2, k3, k4, k5, k6, k7, k8, k9⟩ := HK.out.cells
  have HR := hide HK.out.rng
  have kd := HK.out.dat
  have HL : Hid ((u8L p.s).length = 32) := hide ((u8L_len _).trans hp.n)
  generalize u8L p.s = SL at *
  have HI : Hid ((Tryd.prog.info? 33).map (·.size) = some SL.length) := hide (by rw [HL.out]; exact infoS)
  generalize p.a = a at *
  generalize p.b = b at *
  generalize p.c = c' at *
  generalize p.d = d at *
  generalize p.e = e at *
  generalize p.g0 = g0 at *
  generalize p.g1 = g1 at *
  generalize p.g2 = g2 at *
  generalize p.g3 = g3 at *
  clear hp hd hlt hrow HK
  go_enter Tryd.func22, Tryd.ntmps22
  go_wp2_with (first
    | (refine wpList_load_mid rfl 33 _ rfl w.heap.size 10 (by first | rfl | simp [Act.eval, Act.put]) SL _ HR.out Tryd.underlying33 rfl HI.out ?_)
    | (refine wpList_bd rfl 79 _ rfl RS (HB.out _ (by kernel_rfl)) ?_))
  refine bodyPost_ret (v := .pointer (some ⟨w.heap.size + 1, 0, none⟩)) (by simp [results, Tryd.results22, go_sem]) rfl ⟨_, rfl, HFIN.out _ HY.out HSZ.out, by omega, HY.out.alloc (by rw [HSZ.out]; omega) _⟩
end Go.Proofs.YtedhohamdbplhaaDoor
namespace Go.Proofs.YtedhohamdbplhaaDoor
open Go.RowKit
set_option linter.unusedVariables false
set_option linter.unusedSimpArgs false
set_option maxRecDepth 20000

/-- a whole array loaded under a guard that holds -/
theorem wpList_load_midW {P : Program} {ops : Array Oper} {rest : List Oper} {op : Oper} {a : Act} {w : World} {Q : Exit → Act → World → Prop} (hw : Region.wanted op (yielded ops a.tmps) = true) (ty : TypeId) (x : Operand) (ho : op.op = .load ty x)
    (b o : Nat) (hx : a.eval x = .pointer (some ⟨b, o, none⟩)) (cs : List Value) (d : TypeDesc) (hc : w.rangeAt b o cs)
    (hu : P.underlying ty = some d) (hd : d.isRow = true) (hi : (P.info? ty).map (·.size) = some cs.length)
    (h : wpList P ops Q rest (a.put op.dst (.agg cs.toArray)) w) : wpList P ops Q (op :: rest) a w :=
  wpList_step fun K hK => by rw [if_pos hw]; exact wp_load_mid ty x ho b o hx cs d hc hu hd hi (hK _ _ h)

theorem Tryd.infoU8 : (Tryd.prog.info? 5).map (fun i => (i.zero, i.size, i.bytes)) = some (some (.int .u8 0), 1, 1) := by kernel_rfl
theorem size_u8 : ∀ w, (sizeOf 5).run Tryd.prog w = .ok 1 w := fun w => by
  obtain ⟨i0, hi, hz0, hz1, hz2⟩ := info_parts Tryd.infoU8
  simp [sizeOf, typeInfo, hi, hz1]
theorem map_cell {l : List Nat} (h : ∀ x ∈ l, x < 256) : u8L l = (l.map UInt8.ofNat).map Extern.Stop.cell := by
  unfold u8L
  rw [List.map_map]
  refine List.map_congr_left fun x hx => ?_
  have := h x hx
  simp only [Function.comp, Extern.Stop.cell]
  congr 1
  simp [UInt8.toNat_ofNat']
  omega
theorem ofNat_inj {xs ys : List Nat} (hx : ∀ x ∈ xs, x < 256) (hy : ∀ x ∈ ys, x < 256) : (xs.map UInt8.ofNat == ys.map UInt8.ofNat) = decide (xs = ys) := by
  by_cases h : xs = ys
  · subst h; simp
  · rw [decide_eq_false h, beq_eq_false_iff_ne]
    intro e
    apply h
    have e2 : (xs.map UInt8.ofNat).map UInt8.toNat = (ys.map UInt8.ofNat).map UInt8.toNat := by rw [e]
    rw [List.map_map, List.map_map] at e2
    have k : ∀ zs : List Nat, (∀ x ∈ zs, x < 256) → zs.map (UInt8.toNat ∘ UInt8.ofNat) = zs := fun zs hz => by
      conv => rhs; rw [← List.map_id zs]
      exact List.map_congr_left fun x hx => by simp [UInt8.toNat_ofNat']; have := hz x hx; omega
    rwa [k xs hx, k ys hy] at e2
theorem eql_sum {xs ys : List Nat} (hx : ∀ x ∈ xs, x < 256) (hy : ∀ x ∈ ys, x < 256) (h1 : xs.length = 32) (h2 : ys.length = 32) (w : World) :
    (binOp .eql 33 (.agg (u8L xs).toArray) (.agg (u8L ys).toArray)).run Tryd.prog w = .ok (.bool (decide (xs = ys))) w := by
  rw [map_cell hx, map_cell hy, run_eql_bytes w 33 5 32 Tryd.underlying33 Tryd.underlying5 size_u8 _ _ (by simpa using h1) (by simpa using h2), ofNat_inj hx hy]
def z32 : List Nat := List.replicate 32 0
theorem z32_all {s : List Nat} (h : s.length = 32) : s.all (· == 0) = decide (s = z32) := by
  by_cases e : s = z32
  · subst e; decide
  · rw [decide_eq_false e]
    rw [Bool.eq_false_iff]
    intro hh
    apply e
    rw [List.all_eq_true] at hh
    rw [List.eq_replicate_iff.2 ⟨h, fun x hx => by simpa using hh x hx⟩]
    rfl
theorem Tryd.infoU32 : (Tryd.prog.info? 29).map (fun i => (i.zero, i.size, i.bytes)) = some (some (.int .u32 0), 1, 4) := by kernel_rfl
theorem size_u32 : ∀ w, (sizeOf 29).run Tryd.prog w = .ok 1 w := fun w => by
  obtain ⟨i0, hi, hz0, hz1, hz2⟩ := info_parts Tryd.infoU32
  simp [sizeOf, typeInfo, hi, hz1]
theorem eql_five (a b c d e : Nat) (w : World) : (binOp .eql 77 (.agg #[.int .u32 (a : Int), .int .u32 (b : Int), .int .u32 (c : Int), .int .u32 (d : Int), .int .u32 (e : Int)]) (.agg #[.int .u32 0, .int .u32 0, .int .u32 0, .int .u32 0, .int .u32 0])).run Tryd.prog w = .ok (.bool (a == 0 && b == 0 && c == 0 && d == 0 && e == 0)) w := by
  have key : (Op.equalIn (9999 + 1) 77 (.agg #[.int .u32 (a : Int), .int .u32 (b : Int), .int .u32 (c : Int), .int .u32 (d : Int), .int .u32 (e : Int)]) (.agg #[.int .u32 0, .int .u32 0, .int .u32 0, .int .u32 0, .int .u32 0])).run Tryd.prog w = .ok (a == 0 && b == 0 && c == 0 && d == 0 && e == 0) w := by
    obtain ⟨i0, hi, hz0, hz1, hz2⟩ := info_parts Tryd.infoU32
    rw [run_equalIn_array w 9999 _ _ Tryd.underlying77 hi, show Tryd.prog.cellsOf 29 = 1 from by kernel_rfl, show List.range 5 = [0, 1, 2, 3, 4] from rfl]
    have pe : ∀ x : Nat, (Op.equalIn 9999 29 (.int .u32 (x : Int)) (.int .u32 0)).run Tryd.prog w = .ok (x == 0) w := fun x => by
      rw [run_equalIn_int w 9998 29 .u32 .u32 _ _ Tryd.underlying29]
      congr 1
      rw [Bool.eq_iff_iff]
      simp
    have px : ∀ (xs : Array Value) (i : Nat) (v : Value), xs[i]? = some v → (part 29 xs i).run Tryd.prog w = .ok v w := fun xs i v h => by
      simp [part, isAgg, run_underlying Tryd.underlying29, h]
    have pa : ∀ i, i < 5 → #[Value.int .u32 (a : Int), .int .u32 (b : Int), .int .u32 (c : Int), .int .u32 (d : Int), .int .u32 (e : Int)][i]? = some (.int .u32 ((five a b c d e i : Nat) : Int)) := fun i hi => by
      match i, hi with
      | 0, _ => rfl
      | 1, _ => rfl
      | 2, _ => rfl
      | 3, _ => rfl
      | 4, _ => rfl
    have pz : ∀ i, i < 5 → #[Value.int .u32 0, .int .u32 0, .int .u32 0, .int .u32 0, .int .u32 0][i]? = some (.int .u32 0) := fun i hi => by
      match i, hi with
      | 0, _ => rfl
      | 1, _ => rfl
      | 2, _ => rfl
      | 3, _ => rfl
      | 4, _ => rfl
    have all : ∀ is : List Nat, (∀ i ∈ is, i < 5) → (Op.eqItems 9999 29 1 #[Value.int .u32 (a : Int), .int .u32 (b : Int), .int .u32 (c : Int), .int .u32 (d : Int), .int .u32 (e : Int)] #[Value.int .u32 0, .int .u32 0, .int .u32 0, .int .u32 0, .int .u32 0] is).run Tryd.prog w = .ok (is.all fun i => five a b c d e i == 0) w := by
      intro is
      induction is with
      | nil => intro _; simp [Op.eqItems]
      | cons i is ih =>
        intro hl
        have hi : i < 5 := hl i (by simp)
        simp only [Op.eqItems, Sem.run_bind, Nat.mul_one, px _ i _ (pa i hi), px _ i _ (pz i hi), pe, Result.andThen_ok, List.all_cons]
        cases hb : (five a b c d e i == 0)
        · simp
        · simp only [Bool.not_true, Bool.false_eq_true, if_false, Bool.true_and]
          exact ih fun j hj => hl j (by simp [hj])
    rw [all _ (by decide)]
    simp only [List.all_cons, List.all_nil, Bool.and_true, five, List.getD_cons_zero, List.getD_cons_succ, Bool.and_assoc]
  rw [run_eql_struct]
  show ((Op.equalIn (9999 + 1) _ _ _).run _ _).andThen _ = _
  rw [key]
  rfl
theorem eql_gens (a b c d : Nat) (w : World) : (binOp .eql 32 (.agg #[.int .u64 (a : Int), .int .u64 (b : Int), .int .u64 (c : Int), .int .u64 (d : Int)]) (.agg #[.int .u64 0, .int .u64 0, .int .u64 0, .int .u64 0])).run Tryd.prog w = .ok (.bool (a == 0 && b == 0 && c == 0 && d == 0)) w := by
  have h1 := Tryd.underlying32
  have h2 := Tryd.underlying30
  go_simp
  by_cases e1 : a = 0 <;> by_cases e2 : b = 0 <;> by_cases e3 : c = 0 <;> by_cases e4 : d = 0 <;> simp [e1, e2, e3, e4]

set_option maxHeartbeats 1000000 in
theorem empty_any (w : World) (pb : Nat) (p : PV) (da : Option Addr) (dn dc : Nat) (h : PM w pb p (.slice da dn dc)) :
    Calls Tryd.prog 38 #[.pointer (some ⟨pb, 0, none⟩)] w fun e' w' => e' = .returned (.bool p.empty) ∧ w' = w := by
  obtain ⟨k0, k1, k2, k3, k4⟩ := h.five
  obtain ⟨k5, k6, k7, k8⟩ := h.gens
  have kd := h.dcell
  have HR := hide h.rng
  have HZ : Hid ((u8L z32).toArray = #[.int .u8 0, .int .u8 0, .int .u8 0, .int .u8 0, .int .u8 0, .int .u8 0, .int .u8 0, .int .u8 0, .int .u8 0, .int .u8 0, .int .u8 0, .int .u8 0, .int .u8 0, .int .u8 0, .int .u8 0, .int .u8 0, .int .u8 0, .int .u8 0, .int .u8 0, .int .u8 0, .int .u8 0, .int .u8 0, .int .u8 0, .int .u8 0, .int .u8 0, .int .u8 0, .int .u8 0, .int .u8 0, .int .u8 0, .int .u8 0, .int .u8 0, .int .u8 0]) := hide rfl
  have hes : ∀ w, (binOp .eql 33 (.agg (u8L p.s).toArray) (.agg (u8L z32).toArray)).run Tryd.prog w = .ok (.bool (p.s.all (· == 0))) w := fun w => by rw [z32_all h.ok.n]; exact eql_sum h.ok.s (by decide) h.ok.n (by decide) w
  have HI : Hid ((Tryd.prog.info? 33).map (·.size) = some (u8L p.s).length) := hide (by rw [u8L_len, h.ok.n]; exact infoS)
  have he5 := eql_five p.a p.b p.c p.d p.e
  have heg := eql_gens p.g0 p.g1 p.g2 p.g3
  have hem : p.dl.isEmpty = decide (dn = 0) := by
    obtain ⟨a', cap', e', _⟩ := h.dat
    simp at e'
    obtain ⟨_, e2, _⟩ := e'
    rw [e2]
    cases p.dl <;> simp
  have HE : Hid (p.empty = ((p.a == 0 && p.b == 0 && p.c == 0 && p.d == 0 && p.e == 0) && (p.g0 == 0 && p.g1 == 0 && p.g2 == 0 && p.g3 == 0) && p.s.all (· == 0) && decide (dn = 0))) := hide (by unfold PV.empty; rw [hem])
  rw [HZ.out] at hes
  clear h hem
  generalize p.empty = r at *
  generalize (p.a == 0 && p.b == 0 && p.c == 0 && p.d == 0 && p.e == 0) = b5 at *
  generalize (p.g0 == 0 && p.g1 == 0 && p.g2 == 0 && p.g3 == 0) = bg at *
  generalize p.s.all (· == 0) = bs at *
  generalize u8L p.s = SL at *
  generalize p.a = a at *
  generalize p.b = b at *
  generalize p.c = c' at *
  generalize p.d = d at *
  generalize p.e = e at *
  generalize p.g0 = g0 at *
  generalize p.g1 = g1 at *
  generalize p.g2 = g2 at *
  generalize p.g3 = g3 at *
  cases b5 with
  | false =>
    go_enter Tryd.func38, Tryd.ntmps38
    go_wp2_with (refine wpList_load_mid rfl 33 _ rfl pb 9 (by first | rfl | simp [Act.eval, Act.put]) SL _ HR.out Tryd.underlying33 rfl HI.out ?_)
    go_ret
    exact ⟨by rw [HE.out]; rfl, rfl⟩
  | true =>
    cases bg with
    | false =>
      go_enter Tryd.func38, Tryd.ntmps38
      go_wp2_with (refine wpList_load_mid rfl 33 _ rfl pb 9 (by first | rfl | simp [Act.eval, Act.put]) SL _ HR.out Tryd.underlying33 rfl HI.out ?_)
      go_ret
      exact ⟨by rw [HE.out]; rfl, rfl⟩
    | true =>
      cases bs with
      | false =>
        go_enter Tryd.func38, Tryd.ntmps38
        go_wp2_with (refine wpList_load_midW (by kernel_rfl) 33 _ rfl pb 9 (by first | rfl | simp [Act.eval, Act.put]) SL _ HR.out Tryd.underlying33 rfl HI.out ?_)
        go_ret
        exact ⟨by rw [HE.out]; rfl, rfl⟩
      | true =>
        go_enter Tryd.func38, Tryd.ntmps38
        go_wp2_with (refine wpList_load_midW (by kernel_rfl) 33 _ rfl pb 9 (by first | rfl | simp [Act.eval, Act.put]) SL _ HR.out Tryd.underlying33 rfl HI.out ?_)
        all_goals
          go_ret
          exact ⟨by rw [HE.out]; first | rfl | (simp; rw [Bool.eq_iff_iff]; simp), rfl⟩
end Go.Proofs.YtedhohamdbplhaaDoor
namespace Go.Proofs.YtedhohamdbplhaaDoor
open Go.RowKit
set_option linter.unusedVariables false
set_option linter.unusedSimpArgs false
set_option maxRecDepth 20000

/-- a whole array into the middle of a row -/
theorem wpList_store_at {P : Program} {ops : Array Oper} {rest : List Oper} {o : Oper} {a : Act} {w : World} {Q : Exit → Act → World → Prop} (hgd : o.guard = none) (ty : TypeId) (x y : Operand) (ho : o.op = .store ty x y)
    (g of : Nat) (cells : List Value) (hx : a.eval x = .pointer (some ⟨g, of, none⟩)) (hy : a.eval y = .agg cells.toArray)
    (t : TypeId) (cur : Array Value) (hg : w.heap[g]? = some (.cells cur t (0, 0))) (hi : (P.info? ty).map (·.size) = some cells.length) (hfit : of + cells.length ≤ cur.size) (h1 : ∀ v ∈ cells, v.oneCell' = true)
    (h : wpList P ops Q rest (a.put o.dst undef) (w.setRow g (cur.toList.take of ++ cells ++ cur.toList.drop (of + cells.length)).toArray)) : wpList P ops Q (o :: rest) a w := by
  refine wpList_plain hgd fun K hK => ?_
  have hst := run_storeCells_at P g of t cells 0 cur w hg (by simpa using hfit) h1
  simp only [Nat.add_zero] at hst
  cases hq : P.info? ty with
  | none => simp [hq] at hi
  | some i =>
    have hs : cells.length = i.size := by simp [hq] at hi; omega
    have hsv : (storeVar ty ⟨g, of, none⟩ (.agg cells.toArray)).run P w = .ok () (w.setRow g (cur.toList.take of ++ cells ++ cur.toList.drop (of + cells.length)).toArray) := by
      simp [storeVar, sizeOf, typeInfo, hq, Value.cells, hs, hst]
    unfold Oper.wp execOp
    simp only [ho, hx, hy, Instr.storeAt, Instr.sureAddr, Sem.run_bind, Sem.run_pure, Result.andThen_ok, hsv]
    exact hK _ _ h
theorem row_setS (p : PV) (h : p.s.length = 32) (v : Value) (l : List Nat) (hl : l.length = 32) : ((p.row v).toArray.toList.take 9 ++ u8L l ++ (p.row v).toArray.toList.drop (9 + (u8L l).length)) = PV.row { p with s := l } v := by
  rw [row_eq, row_eq, u8L_len, hl]
  have h1 : (u8L p.s).length = 32 := (u8L_len _).trans h
  simp only [List.append_assoc]
  rw [List.take_append_of_le_length (by simp), List.drop_append, List.drop_append]
  simp [h1]
/-- a digest -/
theorem PM.setS {w : World} {pb : Nat} {p : PV} {v : Value} (h : PM w pb p v) (l : List Nat) (hl : l.length = 32) (hb : ∀ x ∈ l, x < 256) : PM (w.setRow pb ((p.row v).toArray.toList.take 9 ++ u8L l ++ (p.row v).toArray.toList.drop (9 + (u8L l).length)).toArray) pb { p with s := l } v := by
  rw [row_setS p h.ok.n v l hl]
  obtain ⟨h1, h2, h3, h4, h5, h6, h7, h8, h9, h10, h11⟩ := h.ok
  refine ⟨setRow_heap w pb _ _ 79 _ h.row, ⟨h1, h2, h3, h4, h5, h6, h7, h8, h9, hl, hb⟩, h.dat.stay fun g hg => ?_, h.ne⟩
  exact setRow_other _ _ _ _ (by intro e; exact h.ne (by rw [hg, e]))

set_option maxHeartbeats 1000000 in
theorem sblank_any (w : World) (tied : Bool) (pb : Nat) (p : PV) (v : Value) (h : PM w pb p v) :
    Calls Tryd.prog 101 #[.agg #[.bool tied], .pointer (some ⟨pb, 0, none⟩)] w fun e' w' => e' = .returned (.tuple #[]) ∧ PM w' pb { p with s := z32 } v ∧ Oth pb w w' := by
  have hb := (Below.refl w.heap.size w).alloc (Nat.le_refl _) (.cells #[.bool tied] 96)
  have HW := hide (h.below hb)
  have HB := hide hb
  have HP := hide (HW.out.setS z32 (by decide) (by decide))
  have HI : Hid ((Tryd.prog.info? 33).map (·.size) = some (u8L z32).length) := hide (by rw [u8L_len]; exact infoS)
  have HF : Hid (9 + (u8L z32).length ≤ (p.row v).toArray.size) := hide (by rw [u8L_len, List.size_toArray, row_len h.ok.n]; decide)
  have H1 : Hid (∀ x ∈ u8L z32, x.oneCell' = true) := hide (by intro x hx; simp [u8L] at hx; obtain ⟨y, _, rfl⟩ := hx; rfl)
  have HZ : Hid ((u8L z32).toArray = #[.int .u8 0, .int .u8 0, .int .u8 0, .int .u8 0, .int .u8 0, .int .u8 0, .int .u8 0, .int .u8 0, .int .u8 0, .int .u8 0, .int .u8 0, .int .u8 0, .int .u8 0, .int .u8 0, .int .u8 0, .int .u8 0, .int .u8 0, .int .u8 0, .int .u8 0, .int .u8 0, .int .u8 0, .int .u8 0, .int .u8 0, .int .u8 0, .int .u8 0, .int .u8 0, .int .u8 0, .int .u8 0, .int .u8 0, .int .u8 0, .int .u8 0, .int .u8 0]) := hide rfl
  clear h hb
  go_enter Tryd.func101, Tryd.ntmps101
  go_wp2_with (refine wpList_store_at rfl 33 _ _ rfl pb 9 (u8L z32) (by first | rfl | simp [Act.eval, Act.put]) (by rw [HZ.out]; first | rfl | simp [Act.eval, Act.put]) 79 _ HW.out.row HI.out HF.out H1.out ?_)
  go_end0
  exact ⟨rfl, HP.out, ⟨HB.out.os, HB.out.tape, HB.out.output, by simp [World.setRow], fun j h1 h2 => (setRow_other _ _ _ _ (by exact h2)).trans (HB.out.block j h1)⟩⟩
end Go.Proofs.YtedhohamdbplhaaDoor
namespace Go.Proofs.YtedhohamdbplhaaDoor
open Go.RowKit
set_option linter.unusedVariables false
set_option linter.unusedSimpArgs false
set_option maxRecDepth 20000

theorem SpL.below {w x : World} {v : Value} {L : List (Nat × Nat)} (h : SpL w v L) (hb : Below w.heap.size w x) : SpL x v L := by
  obtain ⟨b, off, cap, rfl, h1, h2, h3, h4⟩ := h
  refine ⟨b, off, cap, rfl, h1, h2, h3, fun i hi => ?_⟩
  obtain ⟨c0, c1⟩ := h4 i hi
  have hl := World.block_lt_of_cell? w _ c0
  exact ⟨(World.cell?_of_block (hb.block b hl)).trans c0, (World.cell?_of_block (hb.block b hl)).trans c1⟩
theorem u8L_get {s : List Nat} {j : Nat} (h : j < s.length) : (u8L s)[j]? = some (.int .u8 ((s.getD j 0 : Nat) : Int)) := by
  unfold u8L
  rw [List.getElem?_map, List.getElem?_eq_getElem h, List.getD_eq_getElem?_getD, List.getElem?_eq_getElem h]
  rfl
theorem idx32 {s : List Nat} (h : s.length = 32) (j : Nat) (hj : j < 32) (w : World) : (Instr.index 33 (.agg (u8L s).toArray) (.int .i64 (j : Int))).run Tryd.prog w = .ok (.int .u8 ((s.getD j 0 : Nat) : Int)) w := by
  obtain ⟨i, hi, _, hz, _⟩ := info_parts Tryd.infoU8
  have hg := u8L_get (s := s) (j := j) (by omega)
  have hl : (u8L s).length = 32 := (u8L_len s).trans h
  generalize u8L s = SL at *
  have hjj : (j : Int) < 32 := by omega
  simp [Instr.index, run_underlying Tryd.underlying33, asIntOf, go_sem, sizeOf, typeInfo, hi, hz, hg, hjj]
  intro hh
  omega
/-- is each byte as it may be? -/
theorem all_take {s : List Nat} {f : Nat → Bool} {k : Nat} (h : k < s.length) : (s.take (k + 1)).all f = ((s.take k).all f && f (s.getD k 0)) := by
  rw [List.take_add_one, List.all_append, List.getElem?_eq_getElem h, List.getD_eq_getElem?_getD, List.getElem?_eq_getElem h]
  simp
theorem all_stop {s : List Nat} {f : Nat → Bool} {k : Nat} (h : k < s.length) (hf : f (s.getD k 0) = false) : s.all f = false := by
  rw [List.all_eq_false]
  refine ⟨s.getD k 0, ?_, by simpa using hf⟩
  rw [List.getD_eq_getElem?_getD, List.getElem?_eq_getElem h]
  exact List.getElem_mem h

set_option maxHeartbeats 2000000 in
theorem sfits_any (w : World) (tied : Bool) (pb : Nat) (p : PV) (v : Value) (h : PM w pb p v) :
    Calls Tryd.prog 102 #[.agg #[.bool tied], .pointer (some ⟨pb, 0, none⟩)] w fun e' w' => e' = .returned (.bool (fitF p (.sum tied))) ∧ Below w.heap.size w w' := by
  have HM := hide fun y => smay_any y tied p.a p.b p.c p.d p.e
  have HH := hide fun (y : World) (v : Value) (x : Nat) (h : SpL y v (smayL tied p.e)) (hx : x < 256) => have_any y v (smayL tied p.e) x h (by omega)
  have HF : Hid (fitF p (.sum tied) = p.s.all fun x => meets (smayL tied p.e) x x) := hide rfl
  have HN := hide h.ok.n
  have HS8 := hide h.ok.s
  have HI : Hid ((Tryd.prog.info? 33).map (·.size) = some (u8L p.s).length) := hide (by rw [u8L_len, h.ok.n]; exact infoS)
  have hidx := fun j hj => idx32 h.ok.n j hj
  generalize fitF p (.sum tied) = r at *
  unfold aheadV at HM
  have HZ := hide ((Below.refl w.heap.size w).alloc (Nat.le_refl _) (.cells #[.bool tied] 96))
  have HPM := hide h
  have HSS : Hid (∀ y, Below (w.heap.size + 1) (w.alloc (.cells #[.bool tied] 96)) y → y.cell? ⟨pb, 0, none⟩ = some (.int .u32 (p.a : Int)) ∧ y.cell? ⟨pb, 1, none⟩ = some (.int .u32 (p.b : Int)) ∧ y.cell? ⟨pb, 2, none⟩ = some (.int .u32 (p.c : Int)) ∧ y.cell? ⟨pb, 3, none⟩ = some (.int .u32 (p.d : Int)) ∧ y.cell? ⟨pb, 4, none⟩ = some (.int .u32 (p.e : Int)) ∧ y.cell? ⟨w.heap.size, 0, none⟩ = some (.bool tied)) := hide fun y hb => by
    have hbw : Below w.heap.size w y := HZ.out.trans (hb.mono (by omega))
    obtain ⟨h0, h1, h2, h3, h4⟩ := (HPM.out.below hbw).five
    have hr : y.heap[w.heap.size]? = some (.cells #[.bool tied] 96 (0, 0)) := by rw [hb.block _ (by omega)]; exact Go.heap_alloc_new w _
    exact ⟨h0, h1, h2, h3, h4, by rw [cell_of_row _ _ _ _ _ _ hr]; rfl⟩
  have HSZE := hide (show ((w.alloc (.cells #[.bool tied] 96)).drewN 1).heap.size = w.heap.size + 1 by show (w.alloc _).heap.size = _; simp)
  obtain ⟨h0, h1, h2, h3, h4, h5⟩ := HSS.out _ (Below.refl _ _)
  clear h
  generalize p.a = a at *
  generalize p.b = b at *
  generalize p.c = c at *
  generalize p.d = d at *
  generalize p.e = e at *
  go_enter Tryd.func102, Tryd.ntmps102
  go_wp2_with fail
  go_region_held3 (fun y => y.cell? ⟨pb, 0, none⟩ = some (.int .u32 (a : Int)) ∧ y.cell? ⟨pb, 1, none⟩ = some (.int .u32 (b : Int)) ∧ y.cell? ⟨pb, 2, none⟩ = some (.int .u32 (c : Int)) ∧ y.cell? ⟨pb, 3, none⟩ = some (.int .u32 (d : Int)) ∧ y.cell? ⟨pb, 4, none⟩ = some (.int .u32 (e : Int)) ∧ y.cell? ⟨w.heap.size, 0, none⟩ = some (.bool tied)) (first | exact ⟨h0, h1, h2, h3, h4, h5⟩ | exact HSY.out)
    ((go_at_call 42; refine (HM.out ((w.alloc (.cells #[.bool tied] 96)).drewN 1)).mono ?_; rintro e' y ⟨v, rfl, hs, hb2⟩; have HSP := hide hs; have HBY : Hid (Below (w.heap.size + 1) (w.alloc (.cells #[.bool tied] 96)) y) := hide ((bel_drewN (Below.refl _ _) 1).trans (by have := hb2; rw [HSZE.out] at this; exact this)); have HSY := hide (HSS.out y HBY.out); obtain ⟨g0, g1, g2, g3, g4, g5⟩ := HSY.out; clear hs hb2 HM))
  all_goals
    clear HSS HSZE h0 h1 h2 h3 h4 h5 g0 g1 g2 g3 g4 g5 HSY
    have HBW : Hid (Below w.heap.size w y) := hide (HZ.out.trans (HBY.out.mono (by omega)))
    have HPY := hide (HPM.out.below HBW.out)
    have HRN := hide HPY.out.rng
    obtain ⟨sb, soff, scap, hv, _, _, _, _⟩ := id HSP.out
    subst hv
    clear HPM HBY HZ
    go_wp2_with (refine wpList_load_mid rfl 33 _ rfl pb 9 (by first | rfl | simp [Act.eval, Act.put]) (u8L p.s) _ HRN.out Tryd.underlying33 rfl HI.out ?_)
    go_loopw [18] (fun i wr => ∃ k : Nat, k ≤ 32 ∧ i = .int .i64 k ∧ Hid ((p.s.take k).all (fun x => meets (smayL tied e) x x) = true) ∧ Below y.heap.size y wr) (fun i _ => 32 - (intOf i).toNat)
    case atStart => exact ⟨0, by decide, rfl, hide rfl, by first | exact Below.refl _ _ | exact ⟨rfl, rfl, rfl, Nat.le_refl _, fun _ _ => rfl⟩⟩
    case round =>
      obtain ⟨k, hk, rfl, hall, hbel⟩ := hrel
      have HBE := hide hbel
      clear hbel
      by_cases hlt : k < 32
      · have hx : p.s.getD k 0 < 256 := HS8.out _ (by have := HN.out; simp [List.getD, show k < p.s.length by omega])
        have hix := hidx k hlt
        have HAT := hide (all_take (s := p.s) (f := fun x => meets (smayL tied e) x x) (k := k) (by rw [HN.out]; exact hlt))
        have HST := hide (all_stop (s := p.s) (f := fun x => meets (smayL tied e) x x) (k := k) (by rw [HN.out]; exact hlt))
        generalize p.s.getD k 0 = x at *
        have hwx : IntKind.u64.wrap (x : Int) = (x : Int) := wrap_u64 (by omega)
        have HHV := hide fun y1 (hb : Below y.heap.size y y1) => HH.out y1 _ x (SpL.below HSP.out hb) hx
        cases hm : meets (smayL tied e) x x with
        | true =>
          have HA2 : Hid ((p.s.take (k + 1)).all (fun x => meets (smayL tied e) x x) = true) := hide (by rw [HAT.out, hall.out, hm]; rfl)
          rw [hm] at HHV
          clear hm HST HAT hall hidx
          go_wp2_with (go_at_call 96; refine (HHV.out _ HBE.out).mono ?_; rintro e' z ⟨rfl, hb3⟩; have HB3 := hide (HBE.out.trans (hb3.mono HBE.out.size)); clear hb3)
          go_roundw
          case rel => exact ⟨k + 1, by omega, by go_num, HA2, HB3.out⟩
          case measure => simp [intOf]; omega
        | false =>
          have HA2 : Hid (r = false) := hide (by rw [HF.out]; exact HST.out hm)
          rw [hm] at HHV
          clear hm HST HAT hall hidx HF
          go_wp2_with (go_at_call 96; refine (HHV.out _ HBE.out).mono ?_; rintro e' z ⟨rfl, hb3⟩; have HB3 := hide (HBE.out.trans (hb3.mono HBE.out.size)); clear hb3)
          go_ret
          exact ⟨by rw [HA2.out]; rfl, HBW.out.trans (HB3.out.mono HBW.out.size)⟩
      · obtain rfl : k = 32 := by omega
        have HA2 : Hid (r = true) := hide (by rw [HF.out]; have := hall.out; rwa [List.take_of_length_le (Nat.le_of_eq HN.out)] at this)
        clear hall hidx HF
        go_wp2_with fail
        go_ret
        exact ⟨by rw [HA2.out]; rfl, HBW.out.trans (HBE.out.mono HBW.out.size)⟩
end Go.Proofs.YtedhohamdbplhaaDoor
namespace Go.Proofs.YtedhohamdbplhaaDoor
open Go.RowKit
set_option linter.unusedVariables false
set_option linter.unusedSimpArgs false
set_option maxRecDepth 20000

theorem Oth.trans {rb : Nat} {w x y : World} (h : Oth rb w x) (h2 : Oth rb x y) : Oth rb w y := ⟨h2.os.trans h.os, h2.tape.trans h.tape, h2.output.trans h.output, Nat.le_trans h.size h2.size, fun j a b => (h2.block j (Nat.lt_of_lt_of_le a h.size) b).trans (h.block j a b)⟩
theorem Oth.ofBelow {rb : Nat} {w x : World} (hb : Below w.heap.size w x) : Oth rb w x := (Oth.refl rb w).below hb
theorem BTab.oth {rb : Nat} {w x : World} (h : BTab w) (ho : Oth rb w x) (hne : 0 ≠ rb) : BTab x := fun n hn => by
  obtain ⟨h0, h1, h2⟩ := h n hn
  have hl := World.block_lt_of_cell? w _ h0
  exact ⟨(World.cell?_of_block (ho.block 0 hl hne)).trans h0, (World.cell?_of_block (ho.block 0 hl hne)).trans h1, (World.cell?_of_block (ho.block 0 hl hne)).trans h2⟩
theorem PM.oth {rb : Nat} {w x : World} {pb : Nat} {p : PV} {v : Value} (h : PM w pb p v) (ho : Oth rb w x) (hne : pb ≠ rb) (hv : v.ownBlock ≠ some rb) : PM x pb p v := by
  refine ⟨(ho.block pb h.lt hne).trans h.row, h.ok, ?_, h.ne⟩
  obtain ⟨a, cap, rfl, h1, h2, h3, h4, h5⟩ := h.dat
  refine ⟨a, cap, rfl, h1, h2, h3, h4, fun hp => ?_⟩
  obtain ⟨b, off, rfl, hc⟩ := h5 hp
  refine ⟨b, off, rfl, fun i hi => ?_⟩
  have := hc i hi
  exact (World.cell?_of_block (ho.block b (World.block_lt_of_cell? w _ this) (fun e => hv (by simp [Value.ownBlock, e])))).trans this

theorem num_fits (w : World) (n pb : Nat) (p : PV) (v : Value) (hT : BTab w) (h : PM w pb p v) (hn : n < 18) :
    Calls Tryd.prog 98 #[.int .i64 (n : Int), .pointer (some ⟨pb, 0, none⟩)] w fun e' w' => e' = .returned (.bool (fitF p (.num n))) ∧ Below w.heap.size w w' :=
  nfits_any w n pb p.a p.b p.c p.d p.e hT h.five hn h.ok.a h.ok.b (h.ok.get _)
theorem dat_fits (w : World) (lo hi : Nat) (tied : Bool) (pb : Nat) (p : PV) (v : Value) (h : PM w pb p v) (hlo : lo < 65536) (hhi : hi < 65536) :
    Calls Tryd.prog 100 #[.agg #[.int .u64 (lo : Int), .int .u64 (hi : Int), .bool tied], .pointer (some ⟨pb, 0, none⟩)] w fun e' w' => e' = .returned (.bool (fitF p (.dat lo hi tied))) ∧ Below w.heap.size w w' := by
  obtain ⟨a, cap, hv, h1, h2, h3, h4, h5⟩ := h.dat
  have hd := h.dcell
  rw [hv] at hd
  exact dfits_any w lo hi tied pb p.a p.b p.c p.d p.e a p.dl.length cap h.five hd (by omega) (by omega) h1 h2
theorem num_blank (w : World) (n pb : Nat) (p : PV) (v : Value) (hT : BTab w) (h : PM w pb p v) (hn : n < 18) :
    Calls Tryd.prog 97 #[.int .i64 (n : Int), .pointer (some ⟨pb, 0, none⟩)] w fun e' w' => e' = .returned (.tuple #[]) ∧ ∃ v', PM w' pb (blankF p (.num n)) v' ∧ Oth pb w w' ∧ (v' = v ∨ v' = .slice none 0 0) := by
  refine (nblank_any w n pb p.a p.b p.c p.d p.e hT h.five hn h.fz).mono ?_
  rintro e' w' ⟨rfl, k, rfl⟩
  have hb : Below w.heap.size w (w.drewN k) := bel_drewN (Below.refl _ _) k
  exact ⟨rfl, v, (h.below hb).setN _ 0 (bnd_lt n hn).1 (by decide), ((Oth.refl pb w).drewN k).set _ _, .inl rfl⟩
theorem ids_blank (w : World) (pb : Nat) (p : PV) (v : Value) (h : PM w pb p v) :
    Calls Tryd.prog 103 #[.agg #[], .pointer (some ⟨pb, 0, none⟩)] w fun e' w' => e' = .returned (.tuple #[]) ∧ ∃ v', PM w' pb (blankF p .ids) v' ∧ Oth pb w w' ∧ (v' = v ∨ v' = .slice none 0 0) := by
  obtain ⟨k5, k6, k7, k8⟩ := h.gens
  refine (iblank_any w pb p.g0 p.g1 p.g2 p.g3 k5 k6 k7 k8 h.fz).mono ?_
  rintro e' w' ⟨rfl, rfl⟩
  have hb := (Below.refl w.heap.size w).alloc (Nat.le_refl _) (.cells #[] 98)
  exact ⟨rfl, v, (h.below hb).setG 0 0 0 0 (by decide) (by decide) (by decide) (by decide), (((((Oth.refl pb w).below hb).set 5 _).set 6 _).set 7 _).set 8 _, .inl rfl⟩
theorem sum_blank (w : World) (tied : Bool) (pb : Nat) (p : PV) (v : Value) (h : PM w pb p v) :
    Calls Tryd.prog 101 #[.agg #[.bool tied], .pointer (some ⟨pb, 0, none⟩)] w fun e' w' => e' = .returned (.tuple #[]) ∧ ∃ v', PM w' pb (blankF p (.sum tied)) v' ∧ Oth pb w w' ∧ (v' = v ∨ v' = .slice none 0 0) := by
  refine (sblank_any w tied pb p v h).mono ?_
  rintro e' w' ⟨rfl, h1, h2⟩
  exact ⟨rfl, v, h1, h2, .inl rfl⟩
theorem bsl_nil (w : World) : BSl w (.slice none 0 0) [] := ⟨none, 0, rfl, Nat.le_refl _, Nat.zero_le _, fun _ => rfl, by simp, fun h => absurd h (by simp)⟩
theorem dat_blank (w : World) (lo hi : Nat) (tied : Bool) (pb : Nat) (p : PV) (v : Value) (h : PM w pb p v) :
    Calls Tryd.prog 99 #[.agg #[.int .u64 (lo : Int), .int .u64 (hi : Int), .bool tied], .pointer (some ⟨pb, 0, none⟩)] w fun e' w' => e' = .returned (.tuple #[]) ∧ ∃ v', PM w' pb (blankF p (.dat lo hi tied)) v' ∧ Oth pb w w' ∧ (v' = v ∨ v' = .slice none 0 0) := by
  obtain ⟨a, cap, hv, h1, h2, h3, h4, h5⟩ := h.dat
  have hd := h.dcell
  rw [hv] at hd
  refine (dblank_any w (lo : Int) (hi : Int) tied pb a p.dl.length cap hd (h.fz _)).mono ?_
  rintro e' w' ⟨rfl, rfl⟩
  have hb := (Below.refl w.heap.size w).alloc (Nat.le_refl _) (.cells #[.int .u64 (lo : Int), .int .u64 (hi : Int), .bool tied] 94)
  exact ⟨rfl, .slice none 0 0, (h.below hb).setD (.slice none 0 0) [] (bsl_nil _) (by simp [Value.ownBlock]), ((Oth.refl pb w).below hb).set 41 _, .inr rfl⟩

/-- lists of fields in memory -/
theorem FL.at {w : World} {v : Value} {fs : List Fd} (h : FL w v (fs.map Fd.val)) : (fs = [] ∧ v = .slice none 0 0) ∨ ∃ b, v = .slice (some ⟨b, 0, none⟩) fs.length fs.length ∧ ∀ k f, fs[k]? = some f → w.cell? ⟨b, k, none⟩ = some f.val := by
  rcases h with ⟨h1, h2⟩ | ⟨b, h1, h2⟩
  · exact .inl ⟨by simpa using h1, h2⟩
  · refine .inr ⟨b, by simpa using h1, fun k f hk => ?_⟩
    rw [cell_of_row _ _ _ _ _ _ h2]
    simp [hk]
end Go.Proofs.YtedhohamdbplhaaDoor
