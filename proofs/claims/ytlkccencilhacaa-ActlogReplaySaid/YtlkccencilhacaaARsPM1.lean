import Derived.Test.YtlkccencilhacaaALog9
import Derived.Test.YtlkccencilhacaaABook3
import Derived.Test.YtlkccencilhacaaABook2
import Derived.Test.YtlkccencilhacaaRows
import Derived.Shelf.SortM.Plain
import Derived.Shelf.SortM.SortNone
import Derived.Ground.SlgmProg
import Derived.Shelf.SlGeneric
import Derived.Lib.OwnBridge
import Derived.Test.YtlkccencilhacaaARsPM0
import Derived.Test.YtlkccencilhacaaARpM
import Derived.Test.YtlkccencilhacaaARing
import Derived.Test.YtlkccencilhacaaAOwn
import Derived.Deep.DeepHandedRow
namespace Go.Proofs.Ytlkccencilhacaa
open Go.RowKit Go.Sort
open Num
set_option linter.unusedVariables false
set_option linter.unusedSimpArgs false
set_option maxRecDepth 20000

theorem results_row_tmp2 {P : Program} {fn : Func} {p u v : Tmp} {ty : TypeId} (h : fn.results = #[.cell p ty, .tmp u, .tmp v]) (tmps : Array Value) (w : World) (g : Nat) (t : TypeId) (cs : Array Value) (fr : Nat × Nat) (d : TypeDesc)
    (hp : tmps.getD p undef = .pointer (some ⟨g, 0, none⟩)) (hg : w.heap[g]? = some (.cells cs t fr))
    (hu : P.underlying ty = some d) (hd : (match d with | .struct _ | .array _ _ => true | _ => false) = true) (hi : (P.info? ty).map (·.size) = some cs.size) :
    (results fn tmps).run P w = .ok (.tuple #[.agg cs, tmps.getD u undef, tmps.getD v undef]) w := by
  have hp' : tmps[p]?.getD undef = .pointer (some ⟨g, 0, none⟩) := by simpa using hp
  simp [results, h, hp', asAddr, run_loadVar_row w g t ty cs fr d hg hu hd hi]
theorem set3 {w : World} {g : Nat} {x0 x1 x2 : Value} {t : TypeId} (h : w.heap[g]? = some (.cells #[x0, x1, x2] t (0, 0))) (a b c : Value) : (((w.setCell ⟨g, 0, none⟩ a).setCell ⟨g, 1, none⟩ b).setCell ⟨g, 2, none⟩ c).heap[g]? = some (.cells #[a, b, c] t (0, 0)) := by
  have h1 := Go.heap_setCell_same w g 0 _ t a h
  have h2 := Go.heap_setCell_same _ g 1 _ t b h1
  exact Go.heap_setCell_same _ g 2 _ t c h2
theorem chgSize : (Try.prog.info? 48).map (·.size) = some 3 := by kernel_rfl
/-- what Begin answers -/
structure Bg where
  c0 : Int
  c1 : Int
  c2 : Int
  bs : Option (List Nat)
  er : Int
def recOf (S' : LS) (size first written : Nat) (c0 c1 c2 : Int) : List Nat := recB size ((first + written) % 4294967296) (min written 65535) S'.slots c0 c1 c2 (written * 4 % S'.slots) (ctxL (rowL S') (written * 4 % S'.slots))
def BegRes (S : LS) (ext size first written : Nat) (x : Int) (S' : LS) (written' : Nat) (r : Bg) : Prop :=
  (¬ (0 ≤ x ∧ x < (ext : Int)) ∧ S' = S ∧ written' = written ∧ r = ⟨0, 0, 0, none, 2⟩) ∨
  ((0 ≤ x ∧ x < (ext : Int)) ∧ ∃ slot old gone er, GetRes S x S' slot false old gone er ∧ written' = written ∧ r = ⟨0, 0, 0, none, er⟩) ∨
  ((0 ≤ x ∧ x < (ext : Int)) ∧ ∃ slot old gone, GetRes S x S' slot true old gone 0 ∧ written' = written + 1 ∧ r = ⟨(slot : Int), x, (if gone then old else -1), some (recOf S' size first written (slot : Int) x (if gone then old else -1)), 0⟩)
/-- the record that is handed out -/
def RcO (w w' : World) (GU' : Nat → Prop) (v : Value) : Option (List Nat) → Prop
  | none => v = .slice none 0 0
  | some bs => ∃ g, v = .slice (some ⟨g, 0, none⟩) bs.length bs.length ∧ w'.heap[g]? = some (.cells (byts bs) 5 (0, 0)) ∧ w.heap.size ≤ g ∧ ¬ GU' g
def BegP (w : World) (lp p bm : Nat) (kv rv iv : Value) (S : LS) (ext size first written M : Nat) (x : Int) (e : Ending) (w' : World) : Prop :=
  ∃ S' written' r v kv' rv' iv', e = .returned (.tuple #[.agg #[.int .i64 r.c0, .int .i64 r.c1, .int .i64 r.c2], v, .int .i64 r.er]) ∧ BegRes S ext size first written x S' written' r ∧ RcO w w' (GU lp p bm kv' rv' iv') v r.bs ∧ LgR w' lp p bm kv' rv' iv' S' ext size first written' ∧ S'.Ok (M + 1) ∧ Chg (GU lp p bm kv rv iv) w w' ∧ ∀ b, GU lp p bm kv' rv' iv' b → GU lp p bm kv rv iv b ∨ w.heap.size ≤ b
theorem GetRes.cases {S S' : LS} {x : Int} {slot : Nat} {fresh : Bool} {old : Int} {gone : Bool} {er : Int} (h : GetRes S x S' slot fresh old gone er) : (fresh = false ∧ gone = false ∧ er = 0) ∨ (fresh = false ∧ gone = false ∧ er = 41) ∨ (fresh = true ∧ gone = false ∧ er = 0) ∨ (fresh = true ∧ gone = true ∧ er = 0) := by
  rcases h with ⟨s, g1, g2, g3, rfl, rfl, rfl, rfl⟩ | ⟨g1, g2, g3, g4, rfl, rfl, rfl, rfl⟩ | ⟨g1, g2, s, r, o, g3, g4, g5, g6, rfl, rfl, rfl, rfl⟩ | ⟨g1, g2, g3, g4, g5, rfl, rfl, rfl, rfl⟩ <;> simp
theorem GetRes.slots {S S' : LS} {x : Int} {slot : Nat} {fresh : Bool} {old : Int} {gone : Bool} {er : Int} (h : GetRes S x S' slot fresh old gone er) : S'.slots = S.slots := by
  rcases h with ⟨s, g1, rfl, -⟩ | ⟨g1, g2, rfl, -⟩ | ⟨g1, g2, s, r, o, g3, g4, rfl, -⟩ | ⟨g1, g2, g3, rfl, -⟩ <;> rfl
/-- behind the Lru's Get -/
structure GtW (w y : World) (lp p bm : Nat) (kv rv iv kv' rv' iv' : Value) (S' : LS) (ext size first written M : Nat) : Prop where
  box : y.heap[w.heap.size]? = some (.cells #[.int .i64 0, .int .i64 0, .int .i64 0] 48 (0, 0))
  lg : LgR y lp p bm kv' rv' iv' S' ext size first written
  ok : S'.Ok (M + 1)
  ch : Chg (GU lp p bm kv rv iv) w y
  lo : ∀ b, GU lp p bm kv' rv' iv' b → GU lp p bm kv rv iv b ∨ w.heap.size < b
  gl : ∀ b, GU lp p bm kv rv iv b → b < w.heap.size
theorem GtW.ne {w y : World} {lp p bm : Nat} {kv rv iv kv' rv' iv' : Value} {S' : LS} {ext size first written M : Nat} (h : GtW w y lp p bm kv rv iv kv' rv' iv' S' ext size first written M) : ¬ GU lp p bm kv' rv' iv' w.heap.size := fun e => by
  rcases h.lo _ e with e | e
  · have := h.gl _ e; omega
  · omega
theorem beg_old {w : World} {lp p bm M : Nat} {kv rv iv kv' rv' iv' : Value} {S S' : LS} {ext size first written : Nat} {x : Int} {y : World} (h : GtW w y lp p bm kv rv iv kv' rv' iv' S' ext size first written M) (hin : 0 ≤ x ∧ x < (ext : Int)) {slot : Nat} {old : Int} {gone : Bool} {er : Int} (hg : GetRes S x S' slot false old gone er) : BegP w lp p bm kv rv iv S ext size first written M x (.returned (.tuple #[.agg #[.int .i64 0, .int .i64 0, .int .i64 0], .slice none 0 0, .int .i64 er])) (((y.setCell ⟨w.heap.size, 0, none⟩ (.int .i64 0)).setCell ⟨w.heap.size, 1, none⟩ (.int .i64 0)).setCell ⟨w.heap.size, 2, none⟩ (.int .i64 0)) := by
  refine ⟨S', written, ⟨0, 0, 0, none, er⟩, .slice none 0 0, kv', rv', iv', rfl, .inr (.inl ⟨hin, slot, old, gone, er, hg, rfl, rfl⟩), rfl, h.lg.kept fun b e => ?_, h.ok, ?_, fun b e => (h.lo b e).imp id fun e => by omega⟩
  · have hne : b ≠ w.heap.size := fun e2 => h.ne (e2 ▸ e)
    rw [Go.heap_setCell_other _ _ _ _ hne, Go.heap_setCell_other _ _ _ _ hne, Go.heap_setCell_other _ _ _ _ hne]
  · refine ⟨h.ch.os, h.ch.tape, h.ch.output, by simp only [World.size_setCell]; exact h.ch.size, fun b hb hn => ?_⟩
    have hne : b ≠ w.heap.size := by omega
    rw [Go.heap_setCell_other _ _ _ _ hne, Go.heap_setCell_other _ _ _ _ hne, Go.heap_setCell_other _ _ _ _ hne]
    exact h.ch.keep b hb hn
/-- the world behind a new record -/
def nwW (w z : World) (lp : Nat) (n c0 c1 c2 : Value) : World := (((z.setCell ⟨lp, 4, none⟩ n).setCell ⟨w.heap.size, 0, none⟩ c0).setCell ⟨w.heap.size, 1, none⟩ c1).setCell ⟨w.heap.size, 2, none⟩ c2
theorem beg_new {w : World} {lp p bm M : Nat} {kv rv iv kv' rv' iv' : Value} {S S' : LS} {ext size first written : Nat} {x : Int} {y z : World} (h : GtW w y lp p bm kv rv iv kv' rv' iv' S' ext size first written M) (hin : 0 ≤ x ∧ x < (ext : Int)) {slot : Nat} {old : Int} {gone : Bool} {c2 : Int} (hc2 : c2 = if gone then old else -1) (hg : GetRes S x S' slot true old gone 0) (hz : Below y.heap.size y z) {g : Nat} (hgl : y.heap.size < g) (hgr : z.heap[g]? = some (.cells (byts (recOf S' size first written (slot : Int) x c2)) 5 (0, 0))) (hln : (recOf S' size first written (slot : Int) x c2).length = size) :
    BegP w lp p bm kv rv iv S ext size first written M x (.returned (.tuple #[.agg #[.int .i64 (slot : Int), .int .i64 x, .int .i64 c2], .slice (some ⟨g, 0, none⟩) size size, .int .i64 0])) (nwW w z lp (.int .i64 ((written + 1 : Nat) : Int)) (.int .i64 (slot : Int)) (.int .i64 x) (.int .i64 c2)) := by
  have hlpl := h.lg.lt lp (.inl rfl)
  have hbl := (Array.getElem?_eq_some_iff.1 h.box).1
  have hlp : lp ≠ w.heap.size := fun e => h.ne (e ▸ .inl rfl)
  have hk : ∀ b, b ≠ w.heap.size → b ≠ lp → (nwW w z lp (.int .i64 ((written + 1 : Nat) : Int)) (.int .i64 (slot : Int)) (.int .i64 x) (.int .i64 c2)).heap[b]? = z.heap[b]? := fun b h1 h2 => by
    unfold nwW
    rw [Go.heap_setCell_other _ _ _ _ h1, Go.heap_setCell_other _ _ _ _ h1, Go.heap_setCell_other _ _ _ _ h1, Go.heap_setCell_other _ _ _ _ h2]
  have hrow : (nwW w z lp (.int .i64 ((written + 1 : Nat) : Int)) (.int .i64 (slot : Int)) (.int .i64 x) (.int .i64 c2)).heap[lp]? = some (.cells #[.pointer (some ⟨p, 0, none⟩), .int .i64 (ext : Int), .int .i64 (size : Int), .int .u32 (first : Int), .int .i64 ((written + 1 : Nat) : Int)] 106 (0, 0)) := by
    unfold nwW
    rw [Go.heap_setCell_other _ _ _ _ hlp, Go.heap_setCell_other _ _ _ _ hlp, Go.heap_setCell_other _ _ _ _ hlp]
    exact Go.heap_setCell_same z lp 4 _ 106 _ ((hz.block lp hlpl).trans h.lg.row)
  have hgu : ¬ GU lp p bm kv' rv' iv' g := fun e => by have := h.lg.lt g e; omega
  have hs : (nwW w z lp (.int .i64 ((written + 1 : Nat) : Int)) (.int .i64 (slot : Int)) (.int .i64 x) (.int .i64 c2)).heap.size = z.heap.size := by unfold nwW; simp only [World.size_setCell]
  have hzs := hz.size
  have hcs := h.ch.size
  refine ⟨S', written + 1, ⟨(slot : Int), x, c2, some (recOf S' size first written (slot : Int) x c2), 0⟩, _, kv', rv', iv', rfl, .inr (.inr ⟨hin, slot, old, gone, hg, rfl, by rw [hc2]⟩), ⟨g, by rw [hln], (hk g (by omega) (by omega)).trans hgr, by omega, hgu⟩, ⟨hrow, h.lg.l.kept fun b e => ?_, h.lg.ap⟩, h.ok, ?_, fun b e => (h.lo b e).imp id fun e => by omega⟩
  · exact (hk b (fun e2 => h.ne (e2 ▸ .inr e)) (fun e2 => h.lg.ap (e2 ▸ e))).trans (hz.block b (h.lg.lt b (.inr e)))
  · refine ⟨?_, ?_, ?_, by rw [hs]; omega, fun b hb hn => ?_⟩
    · exact hz.os.trans h.ch.os
    · exact hz.tape.trans h.ch.tape
    · exact hz.output.trans h.ch.output
    · exact (hk b (by omega) (fun e => hn (.inl e))).trans ((hz.block b (by omega)).trans (h.ch.keep b hb hn))
theorem recOf_len {S' : LS} {size first written : Nat} {c0 c1 c2 : Int} (h : 128 ≤ size) : (recOf S' size first written c0 c1 c2).length = size := by
  unfold recOf recB recH
  simp [be_len]
  omega
set_option maxHeartbeats 2000000 in
theorem begin_any {w : World} {lp p bm M : Nat} {kv rv iv : Value} {S : LS} {ext size first written : Nat} (h : LgR w lp p bm kv rv iv S ext size first written) (hS : S.Ok M) (hM : M ≤ 4611686018427387904) (hw : written ≤ 1000000000000000) (hx4 : ext ≤ 1024) (hsz : size = 128 ∨ size = 256 ∨ size = 512 ∨ size = 1024) (x : Int) :
    Calls Try.prog 18 #[.pointer (some ⟨lp, 0, none⟩), .int .i64 x] w (BegP w lp p bm kv rv iv S ext size first written M x) := by
  have HB0 := hide ((Below.refl w.heap.size w).alloc (Nat.le_refl _) (.cells #[.int .i64 0, .int .i64 0, .int .i64 0] 48))
  have HL0 := hide (h.below HB0.out)
  have HH := hide fun y (hy : LgR y lp p bm kv rv iv S ext size first written) => lhas_any hy x
  by_cases hin : 0 ≤ x ∧ x < (ext : Int)
  case neg =>
    rw [decide_eq_false hin] at HH
    have HF : Hid (BegP w lp p bm kv rv iv S ext size first written M x (.returned (.tuple #[.agg #[.int .i64 0, .int .i64 0, .int .i64 0], .slice none 0 0, .int .i64 2])) (w.alloc (.cells #[.int .i64 0, .int .i64 0, .int .i64 0] 48))) := hide ⟨S, written, ⟨0, 0, 0, none, 2⟩, .slice none 0 0, kv, rv, iv, rfl, .inl ⟨hin, rfl, rfl, rfl⟩, rfl, HL0.out, ⟨hS.s1, hS.s2, hS.kl, hS.rl, hS.kd, hS.id, hS.im, hS.kb, fun r hr => Nat.le_trans (hS.rb r hr) (Nat.le_succ _), hS.me⟩, Chg.ofBelow HB0.out, fun b e => .inl e⟩
    clear h hS
    go_enter Try.func18, Try.ntmps18
    go_wp2_with (go_at_call 47; refine (HH.out _ HL0.out).mono ?_; rintro e y ⟨rfl, rfl⟩)
    exact bodyPost_ret (results_row_tmp2 (p := 4) (u := 5) (v := 6) rfl _ _ w.heap.size 48 _ (0, 0) _ rfl (Go.heap_alloc_new w _) Try.underlying48 rfl chgSize) rfl HF.out
  rw [decide_eq_true hin] at HH
  have HG := hide fun y (hy : LgR y lp p bm kv rv iv S ext size first written) => Get_any (key := x) hy.l hS hM (by unfold i64ok; omega)
  have c0 : (w.alloc (.cells #[.int .i64 0, .int .i64 0, .int .i64 0] 48)).cell? ⟨lp, 0, none⟩ = some (.pointer (some ⟨p, 0, none⟩)) := HL0.out.c 0
  have HGT : Hid (∀ y S' kv' rv' iv', LRep y p bm kv' rv' iv' S' → S'.Ok (M + 1) → Chg (LU p bm kv rv iv) (w.alloc (.cells #[.int .i64 0, .int .i64 0, .int .i64 0] 48)) y → LLoc (w.alloc (.cells #[.int .i64 0, .int .i64 0, .int .i64 0] 48)) p bm kv rv iv kv' rv' iv' → GtW w y lp p bm kv rv iv kv' rv' iv' S' ext size first written M) := hide fun y S' kv' rv' iv' hl ho hc hloc => by
    have hlt := h.lt
    refine ⟨(hc.keep w.heap.size (by simp) (fun e => by have := h.l.lt _ e; omega)).trans (Go.heap_alloc_new w _), HL0.out.turn hl hc hloc, ho, ?_, ?_, hlt⟩
    · exact (Chg.ofBelow HB0.out).trans (hc.mono fun b _ e => .inr e)
    · rintro b (e | e)
      · exact .inl (.inl e)
      · rcases hloc b e with e | e
        · exact .inl (.inr e)
        · simp at e; exact .inr (by omega)
  have HIN := hide hin
  have HMB := hide hM
  clear h hS hin
  go_enter Try.func18, Try.ntmps18
  go_wp2_with (first
    | (go_at_call 47; refine (HH.out _ HL0.out).mono ?_; rintro e y ⟨rfl, rfl⟩)
    | (go_at_call 48; refine (HG.out _ HL0.out).mono ?_; rintro e y ⟨S', slot, fresh, old, gone, er, kv', rv', iv', hg, rfl, hl, ho, hc, hloc⟩; have HGR := hide hg; have HY := hide (HGT.out _ _ _ _ _ hl ho hc hloc); have e0 : y.cell? ⟨w.heap.size, 0, none⟩ = some (.int .i64 0) := cell_of_row _ _ _ _ _ _ HY.out.box; have e1 : y.cell? ⟨w.heap.size, 1, none⟩ = some (.int .i64 0) := cell_of_row _ _ _ _ _ _ HY.out.box; have e2 : y.cell? ⟨w.heap.size, 2, none⟩ = some (.int .i64 0) := cell_of_row _ _ _ _ _ _ HY.out.box; have f0 : y.frozen? ⟨w.heap.size, 0, none⟩ = false := frozen_of_row _ _ _ _ 48 HY.out.box; have f1 : y.frozen? ⟨w.heap.size, 1, none⟩ = false := frozen_of_row _ _ _ _ 48 HY.out.box; have f2 : y.frozen? ⟨w.heap.size, 2, none⟩ = false := frozen_of_row _ _ _ _ 48 HY.out.box; clear hg hl ho hc hloc HG HH HL0 c0 HGT HB0; rcases HGR.out.cases with ⟨rfl, rfl, rfl⟩ | ⟨rfl, rfl, rfl⟩ | ⟨rfl, rfl, rfl⟩ | ⟨rfl, rfl, rfl⟩))
  · exact bodyPost_ret (results_row_tmp2 (p := 4) (u := 5) (v := 6) rfl _ _ w.heap.size 48 _ (0, 0) _ rfl (set3 HY.out.box _ _ _) Try.underlying48 rfl chgSize) rfl (beg_old HY.out HIN.out HGR.out)
  · exact bodyPost_ret (results_row_tmp2 (p := 4) (u := 5) (v := 6) rfl _ _ w.heap.size 48 _ (0, 0) _ rfl (set3 HY.out.box _ _ _) Try.underlying48 rfl chgSize) rfl (beg_old HY.out HIN.out HGR.out)
  · have HBY := hide ((Below.refl y.heap.size y).alloc (Nat.le_refl _) (.cells #[.int .i64 (slot : Int), .int .i64 x, .int .i64 (-1)] 48))
    have HSL := hide HGR.out.slots
    have hos1 := HY.out.ok.s1
    have hos2 := HY.out.ok.s2
    have HRC := hide fun z (hz : Below y.heap.size y z) => record_any (HY.out.lg.below hz) HY.out.ok hw (slot : Int) x (-1)
    have hsz2 : size ≤ 1024 ∧ 128 ≤ size := by omega
    have HBK := hide fun z => block_any z size ((first + written) % 4294967296) (min written 65535) S'.slots (slot : Int) x (-1) (written * 4 % S'.slots) (ctxL (rowL S') (written * 4 % S'.slots)) hsz (by omega) (by omega) (by omega) (by have := Nat.mod_lt (written * 4) (show 0 < S'.slots by omega); omega)
    have HBN := hide fun z (hz : Below y.heap.size y z) g (hgl : y.heap.size < g) hgr => beg_new (z := z) (g := g) HY.out HIN.out (c2 := (-1)) (by simp) HGR.out hz hgl hgr (recOf_len hsz2.2)
    have HCY := hide fun z (hz : Below y.heap.size y z) => And.intro ((HY.out.lg.below hz).c 4) (And.intro ((HY.out.lg.below hz).c 2) (And.intro (frozen_of_row z lp 4 _ 106 (HY.out.lg.below hz).row) ((hz.block _ (Array.getElem?_eq_some_iff.1 HY.out.box).1).trans HY.out.box)))
    have HCB : Hid (∀ z, Below (y.alloc (.cells #[.int .i64 (slot : Int), .int .i64 x, .int .i64 (-1)] 48)).heap.size (y.alloc (.cells #[.int .i64 (slot : Int), .int .i64 x, .int .i64 (-1)] 48)) z → z.heap[y.heap.size]? = some (.cells #[.int .i64 (slot : Int), .int .i64 x, .int .i64 (-1)] 48 (0, 0))) := hide fun z hz => (hz.block _ (by simp)).trans (Go.heap_alloc_new y _)
    generalize recA ((first + written) % 4294967296) (min written 65535) S'.slots (slot : Int) x (-1) (written * 4 % S'.slots) (ctxL (rowL S') (written * 4 % S'.slots)) = RA at *
    have k2 : (y.alloc (.cells #[.int .i64 (slot : Int), .int .i64 x, .int .i64 (-1)] 48)).cell? ⟨lp, 2, none⟩ = some (.int .i64 (size : Int)) := (HCY.out _ HBY.out).2.1
    have HB1 : Hid (Below (y.alloc (.cells #[.int .i64 (slot : Int), .int .i64 x, .int .i64 (-1)] 48)).heap.size (y.alloc (.cells #[.int .i64 (slot : Int), .int .i64 x, .int .i64 (-1)] 48)) (y.alloc (.cells #[.int .i64 (slot : Int), .int .i64 x, .int .i64 (-1)] 48)).drew) := hide (Below.refl _ _).drew
    have m0 : (y.alloc (.cells #[.int .i64 (slot : Int), .int .i64 x, .int .i64 (-1)] 48)).cell? ⟨y.heap.size, 0, none⟩ = some (.int .i64 (slot : Int)) := cell_of_row _ _ _ _ _ _ (Go.heap_alloc_new y _)
    have m1 : (y.alloc (.cells #[.int .i64 (slot : Int), .int .i64 x, .int .i64 (-1)] 48)).cell? ⟨y.heap.size, 1, none⟩ = some (.int .i64 x) := cell_of_row _ _ _ _ _ _ (Go.heap_alloc_new y _)
    have m2 : (y.alloc (.cells #[.int .i64 (slot : Int), .int .i64 x, .int .i64 (-1)] 48)).cell? ⟨y.heap.size, 2, none⟩ = some (.int .i64 (-1)) := cell_of_row _ _ _ _ _ _ (Go.heap_alloc_new y _)
    have hwr : IntKind.i64.wrap ((written : Int) + 1) = ((written + 1 : Nat) : Int) := by simp [IntKind.wrap, IntKind.bits, IntKind.signed]; omega
    clear e0 e1 e2 f0 f1 f2 hsz2
    go_region_held3 (fun z => z.cell? ⟨lp, 2, none⟩ = some (.int .i64 (size : Int)) ∧ z.cell? ⟨y.heap.size, 0, none⟩ = some (.int .i64 (slot : Int)) ∧ z.cell? ⟨y.heap.size, 1, none⟩ = some (.int .i64 x) ∧ z.cell? ⟨y.heap.size, 2, none⟩ = some (.int .i64 (-1))) (first | exact ⟨k2, m0, m1, m2⟩ | exact ⟨k3, n0, n1, n2⟩ | exact ⟨k4, r0, r1, r2⟩)
      (first
        | (go_at_call 49; refine (HRC.out _ (HBY.out.trans (HB1.out.mono HBY.out.size))).mono ?_; rintro e z2 ⟨rfl, hz⟩; have HZ2 := hide (HB1.out.trans (hz.mono HB1.out.size)); have k3 : z2.cell? ⟨lp, 2, none⟩ = some (.int .i64 (size : Int)) := (HCY.out _ (HBY.out.trans (HZ2.out.mono HBY.out.size))).2.1; have n0 : z2.cell? ⟨y.heap.size, 0, none⟩ = some (.int .i64 (slot : Int)) := cell_of_row _ _ _ _ _ _ (HCB.out _ HZ2.out); have n1 : z2.cell? ⟨y.heap.size, 1, none⟩ = some (.int .i64 x) := cell_of_row _ _ _ _ _ _ (HCB.out _ HZ2.out); have n2 : z2.cell? ⟨y.heap.size, 2, none⟩ = some (.int .i64 (-1)) := cell_of_row _ _ _ _ _ _ (HCB.out _ HZ2.out); clear hz)
        | (go_at_call 50; refine (HBK.out _).mono ?_; rintro e z3 ⟨rfl, hrow, hz⟩; have HZ3 := hide (HZ2.out.trans (hz.mono HZ2.out.size)); have HRW := hide hrow; have HGL : Hid (y.heap.size < z2.heap.size + 1) := hide (by have := HZ2.out.size; simp at this; omega); have k4 : z3.cell? ⟨lp, 2, none⟩ = some (.int .i64 (size : Int)) := (HCY.out _ (HBY.out.trans (HZ3.out.mono HBY.out.size))).2.1; have r0 : z3.cell? ⟨y.heap.size, 0, none⟩ = some (.int .i64 (slot : Int)) := cell_of_row _ _ _ _ _ _ (HCB.out _ HZ3.out); have r1 : z3.cell? ⟨y.heap.size, 1, none⟩ = some (.int .i64 x) := cell_of_row _ _ _ _ _ _ (HCB.out _ HZ3.out); have r2 : z3.cell? ⟨y.heap.size, 2, none⟩ = some (.int .i64 (-1)) := cell_of_row _ _ _ _ _ _ (HCB.out _ HZ3.out); clear hrow hz))
    have HZY := hide (HBY.out.trans (HZ3.out.mono HBY.out.size))
    obtain ⟨q4, -, fz4, bx⟩ := HCY.out _ HZY.out
    have q4' : z3.cell? ⟨lp, 4, none⟩ = some (.int .i64 (written : Int)) := q4
    have HBX := hide bx
    have e0 : z3.cell? ⟨w.heap.size, 0, none⟩ = some (.int .i64 0) := cell_of_row _ _ _ _ _ _ bx
    have e1 : z3.cell? ⟨w.heap.size, 1, none⟩ = some (.int .i64 0) := cell_of_row _ _ _ _ _ _ bx
    have e2 : z3.cell? ⟨w.heap.size, 2, none⟩ = some (.int .i64 0) := cell_of_row _ _ _ _ _ _ bx
    have f0 : z3.frozen? ⟨w.heap.size, 0, none⟩ = false := frozen_of_row _ _ _ _ 48 bx
    have f1 : z3.frozen? ⟨w.heap.size, 1, none⟩ = false := frozen_of_row _ _ _ _ 48 bx
    have f2 : z3.frozen? ⟨w.heap.size, 2, none⟩ = false := frozen_of_row _ _ _ _ 48 bx
    have hw0 := (Array.getElem?_eq_some_iff.1 HY.out.box).1
    have hw1 := HY.out.gl lp (.inl rfl)
    have ne1 : ¬ w.heap.size = lp := by omega
    have ne2 : ¬ lp = w.heap.size := by omega
    have ne3 : ¬ y.heap.size = lp := by omega
    have ne4 : ¬ y.heap.size = w.heap.size := by omega
    have ne5 : ¬ w.heap.size = y.heap.size := by omega
    have ne6 : ¬ lp = y.heap.size := by omega
    have HFIN := hide (HBN.out _ HZY.out _ HGL.out HRW.out)
    have HROW : Hid (∀ c : Value, (((z3.setCell ⟨lp, 4, none⟩ (.int .i64 ((written + 1 : Nat) : Int))).setCell ⟨w.heap.size, 0, none⟩ (.int .i64 (slot : Int))).setCell ⟨w.heap.size, 1, none⟩ (.int .i64 x)).setCell ⟨w.heap.size, 2, none⟩ c |>.heap[w.heap.size]? = some (.cells #[.int .i64 (slot : Int), .int .i64 x, c] 48 (0, 0))) := hide fun c => set3 ((Go.heap_setCell_other _ _ _ _ ne1).trans bx) _ _ _
    clear bx q4 hw0 hw1 HCY HCB HBN HRC HBK HY HB1 HZ2 HRW HGL
    have eW : ((written + 1 : Nat) : Int) = (written : Int) + 1 := by omega
    unfold nwW at HFIN
    rw [eW] at HFIN HROW
    clear eW
    go_wp2_with fail
    exact bodyPost_ret (results_row_tmp2 (p := 4) (u := 5) (v := 6) rfl _ _ w.heap.size 48 _ (0, 0) _ rfl (HROW.out _) Try.underlying48 rfl chgSize) rfl HFIN.out
  · have HBY := hide ((Below.refl y.heap.size y).alloc (Nat.le_refl _) (.cells #[.int .i64 (slot : Int), .int .i64 x, .int .i64 old] 48))
    have HSL := hide HGR.out.slots
    have hos1 := HY.out.ok.s1
    have hos2 := HY.out.ok.s2
    have HRC := hide fun z (hz : Below y.heap.size y z) => record_any (HY.out.lg.below hz) HY.out.ok hw (slot : Int) x old
    have hsz2 : size ≤ 1024 ∧ 128 ≤ size := by omega
    have HBK := hide fun z => block_any z size ((first + written) % 4294967296) (min written 65535) S'.slots (slot : Int) x old (written * 4 % S'.slots) (ctxL (rowL S') (written * 4 % S'.slots)) hsz (by omega) (by omega) (by omega) (by have := Nat.mod_lt (written * 4) (show 0 < S'.slots by omega); omega)
    have HBN := hide fun z (hz : Below y.heap.size y z) g (hgl : y.heap.size < g) hgr => beg_new (z := z) (g := g) HY.out HIN.out (c2 := old) (by simp) HGR.out hz hgl hgr (recOf_len hsz2.2)
    have HCY := hide fun z (hz : Below y.heap.size y z) => And.intro ((HY.out.lg.below hz).c 4) (And.intro ((HY.out.lg.below hz).c 2) (And.intro (frozen_of_row z lp 4 _ 106 (HY.out.lg.below hz).row) ((hz.block _ (Array.getElem?_eq_some_iff.1 HY.out.box).1).trans HY.out.box)))
    have HCB : Hid (∀ z, Below (y.alloc (.cells #[.int .i64 (slot : Int), .int .i64 x, .int .i64 old] 48)).heap.size (y.alloc (.cells #[.int .i64 (slot : Int), .int .i64 x, .int .i64 old] 48)) z → z.heap[y.heap.size]? = some (.cells #[.int .i64 (slot : Int), .int .i64 x, .int .i64 old] 48 (0, 0))) := hide fun z hz => (hz.block _ (by simp)).trans (Go.heap_alloc_new y _)
    generalize recA ((first + written) % 4294967296) (min written 65535) S'.slots (slot : Int) x old (written * 4 % S'.slots) (ctxL (rowL S') (written * 4 % S'.slots)) = RA at *
    have k2 : (y.alloc (.cells #[.int .i64 (slot : Int), .int .i64 x, .int .i64 old] 48)).cell? ⟨lp, 2, none⟩ = some (.int .i64 (size : Int)) := (HCY.out _ HBY.out).2.1
    have HB1 : Hid (Below (y.alloc (.cells #[.int .i64 (slot : Int), .int .i64 x, .int .i64 old] 48)).heap.size (y.alloc (.cells #[.int .i64 (slot : Int), .int .i64 x, .int .i64 old] 48)) (y.alloc (.cells #[.int .i64 (slot : Int), .int .i64 x, .int .i64 old] 48)).drew) := hide (Below.refl _ _).drew
    have m0 : (y.alloc (.cells #[.int .i64 (slot : Int), .int .i64 x, .int .i64 old] 48)).cell? ⟨y.heap.size, 0, none⟩ = some (.int .i64 (slot : Int)) := cell_of_row _ _ _ _ _ _ (Go.heap_alloc_new y _)
    have m1 : (y.alloc (.cells #[.int .i64 (slot : Int), .int .i64 x, .int .i64 old] 48)).cell? ⟨y.heap.size, 1, none⟩ = some (.int .i64 x) := cell_of_row _ _ _ _ _ _ (Go.heap_alloc_new y _)
    have m2 : (y.alloc (.cells #[.int .i64 (slot : Int), .int .i64 x, .int .i64 old] 48)).cell? ⟨y.heap.size, 2, none⟩ = some (.int .i64 old) := cell_of_row _ _ _ _ _ _ (Go.heap_alloc_new y _)
    have hwr : IntKind.i64.wrap ((written : Int) + 1) = ((written + 1 : Nat) : Int) := by simp [IntKind.wrap, IntKind.bits, IntKind.signed]; omega
    clear e0 e1 e2 f0 f1 f2 hsz2
    go_region_held3 (fun z => z.cell? ⟨lp, 2, none⟩ = some (.int .i64 (size : Int)) ∧ z.cell? ⟨y.heap.size, 0, none⟩ = some (.int .i64 (slot : Int)) ∧ z.cell? ⟨y.heap.size, 1, none⟩ = some (.int .i64 x) ∧ z.cell? ⟨y.heap.size, 2, none⟩ = some (.int .i64 old)) (first | exact ⟨k2, m0, m1, m2⟩ | exact ⟨k3, n0, n1, n2⟩ | exact ⟨k4, r0, r1, r2⟩)
      (first
        | (go_at_call 49; refine (HRC.out _ (HBY.out.trans (HB1.out.mono HBY.out.size))).mono ?_; rintro e z2 ⟨rfl, hz⟩; have HZ2 := hide (HB1.out.trans (hz.mono HB1.out.size)); have k3 : z2.cell? ⟨lp, 2, none⟩ = some (.int .i64 (size : Int)) := (HCY.out _ (HBY.out.trans (HZ2.out.mono HBY.out.size))).2.1; have n0 : z2.cell? ⟨y.heap.size, 0, none⟩ = some (.int .i64 (slot : Int)) := cell_of_row _ _ _ _ _ _ (HCB.out _ HZ2.out); have n1 : z2.cell? ⟨y.heap.size, 1, none⟩ = some (.int .i64 x) := cell_of_row _ _ _ _ _ _ (HCB.out _ HZ2.out); have n2 : z2.cell? ⟨y.heap.size, 2, none⟩ = some (.int .i64 old) := cell_of_row _ _ _ _ _ _ (HCB.out _ HZ2.out); clear hz)
        | (go_at_call 50; refine (HBK.out _).mono ?_; rintro e z3 ⟨rfl, hrow, hz⟩; have HZ3 := hide (HZ2.out.trans (hz.mono HZ2.out.size)); have HRW := hide hrow; have HGL : Hid (y.heap.size < z2.heap.size + 1) := hide (by have := HZ2.out.size; simp at this; omega); have k4 : z3.cell? ⟨lp, 2, none⟩ = some (.int .i64 (size : Int)) := (HCY.out _ (HBY.out.trans (HZ3.out.mono HBY.out.size))).2.1; have r0 : z3.cell? ⟨y.heap.size, 0, none⟩ = some (.int .i64 (slot : Int)) := cell_of_row _ _ _ _ _ _ (HCB.out _ HZ3.out); have r1 : z3.cell? ⟨y.heap.size, 1, none⟩ = some (.int .i64 x) := cell_of_row _ _ _ _ _ _ (HCB.out _ HZ3.out); have r2 : z3.cell? ⟨y.heap.size, 2, none⟩ = some (.int .i64 old) := cell_of_row _ _ _ _ _ _ (HCB.out _ HZ3.out); clear hrow hz))
    have HZY := hide (HBY.out.trans (HZ3.out.mono HBY.out.size))
    obtain ⟨q4, -, fz4, bx⟩ := HCY.out _ HZY.out
    have q4' : z3.cell? ⟨lp, 4, none⟩ = some (.int .i64 (written : Int)) := q4
    have HBX := hide bx
    have e0 : z3.cell? ⟨w.heap.size, 0, none⟩ = some (.int .i64 0) := cell_of_row _ _ _ _ _ _ bx
    have e1 : z3.cell? ⟨w.heap.size, 1, none⟩ = some (.int .i64 0) := cell_of_row _ _ _ _ _ _ bx
    have e2 : z3.cell? ⟨w.heap.size, 2, none⟩ = some (.int .i64 0) := cell_of_row _ _ _ _ _ _ bx
    have f0 : z3.frozen? ⟨w.heap.size, 0, none⟩ = false := frozen_of_row _ _ _ _ 48 bx
    have f1 : z3.frozen? ⟨w.heap.size, 1, none⟩ = false := frozen_of_row _ _ _ _ 48 bx
    have f2 : z3.frozen? ⟨w.heap.size, 2, none⟩ = false := frozen_of_row _ _ _ _ 48 bx
    have hw0 := (Array.getElem?_eq_some_iff.1 HY.out.box).1
    have hw1 := HY.out.gl lp (.inl rfl)
    have ne1 : ¬ w.heap.size = lp := by omega
    have ne2 : ¬ lp = w.heap.size := by omega
    have ne3 : ¬ y.heap.size = lp := by omega
    have ne4 : ¬ y.heap.size = w.heap.size := by omega
    have ne5 : ¬ w.heap.size = y.heap.size := by omega
    have ne6 : ¬ lp = y.heap.size := by omega
    have HFIN := hide (HBN.out _ HZY.out _ HGL.out HRW.out)
    have HROW : Hid (∀ c : Value, (((z3.setCell ⟨lp, 4, none⟩ (.int .i64 ((written + 1 : Nat) : Int))).setCell ⟨w.heap.size, 0, none⟩ (.int .i64 (slot : Int))).setCell ⟨w.heap.size, 1, none⟩ (.int .i64 x)).setCell ⟨w.heap.size, 2, none⟩ c |>.heap[w.heap.size]? = some (.cells #[.int .i64 (slot : Int), .int .i64 x, c] 48 (0, 0))) := hide fun c => set3 ((Go.heap_setCell_other _ _ _ _ ne1).trans bx) _ _ _
    clear bx q4 hw0 hw1 HCY HCB HBN HRC HBK HY HB1 HZ2 HRW HGL
    have eW : ((written + 1 : Nat) : Int) = (written : Int) + 1 := by omega
    unfold nwW at HFIN
    rw [eW] at HFIN HROW
    clear eW
    go_wp2_with fail
    exact bodyPost_ret (results_row_tmp2 (p := 4) (u := 5) (v := 6) rfl _ _ w.heap.size 48 _ (0, 0) _ rfl (HROW.out _) Try.underlying48 rfl chgSize) rfl HFIN.out
end Go.Proofs.Ytlkccencilhacaa
namespace Go.Proofs.Ytlkccencilhacaa
open Go.RowKit Go.Sort
set_option linter.unusedVariables false
set_option linter.unusedSimpArgs false
set_option maxRecDepth 20000

theorem RefRes.uniq {S : LS} {M : Nat} (hS : S.Ok M) {k : Int} {r t : Nat} (h1 : RefRes S k r) (h2 : RefRes S k t) : r = t := by
  rcases h1 with ⟨a, a1, a2⟩ | ⟨a1, rfl⟩
  · rcases h2 with ⟨b, b1, b2⟩ | ⟨b1, rfl⟩
    · have := nodup_inj hS.kd a1 b1
      subst this
      rw [a2] at b2
      exact Option.some.inj b2
    · exact absurd (List.mem_of_getElem? a1) b1
  · rcases h2 with ⟨b, b1, b2⟩ | ⟨b1, rfl⟩
    · exact absurd (List.mem_of_getElem? b1) a1
    · rfl
theorem RefRes.total {S : LS} {M : Nat} (hS : S.Ok M) (k : Int) : ∃ r, RefRes S k r := by
  by_cases h : k ∈ S.ks
  · obtain ⟨s, hs⟩ := List.getElem?_of_mem h
    have hl : s < S.rs.length := by rw [hS.rl]; exact (List.getElem?_eq_some_iff.1 hs).1
    exact ⟨S.rs[s], .inl ⟨s, hs, List.getElem?_eq_getElem hl⟩⟩
  · exact ⟨0, .inr ⟨h, rfl⟩⟩
theorem RefRes.pos {S : LS} {k : Int} {r : Nat} (h : RefRes S k r) (hr : 0 < r) : k ∈ S.ks := by
  rcases h with ⟨s, h1, _⟩ | ⟨_, rfl⟩
  · exact List.mem_of_getElem? h1
  · omega
/-- what Get does to the references -/
theorem GetRes.refs {S S' : LS} {M : Nat} (hS : S.Ok M) {key : Int} {slot : Nat} {fresh : Bool} {old : Int} {gone : Bool} {er : Int} (h : GetRes S key S' slot fresh old gone er) (he : er = 0) : (∀ k r, k ≠ key → RefRes S k r → RefRes S' k r) ∧ ∀ r, RefRes S key r → RefRes S' key (r + 1) := by
  rcases h with ⟨s, g1, rfl, -⟩ | ⟨g1, g2, rfl, -⟩ | ⟨g1, g2, s, t, o, g3, g4, rfl, -⟩ | ⟨g1, g2, g3, rfl, -, -, -, -, rfl⟩
  · have hsl : s < S.rs.length := by rw [hS.rl]; exact (List.getElem?_eq_some_iff.1 g1).1
    refine ⟨fun k r hk hr => ?_, fun r hr => ?_⟩
    · rcases hr with ⟨a, a1, a2⟩ | ⟨a1, rfl⟩
      · refine .inl ⟨a, a1, ?_⟩
        show (S.rs.set s _)[a]? = _
        rw [getD_set hsl, if_neg (fun e => hk (by rw [e, g1] at a1; exact (Option.some.inj a1).symm)), a2]
      · exact .inr ⟨a1, rfl⟩
    · rcases hr with ⟨a, a1, a2⟩ | ⟨a1, rfl⟩
      · have := nodup_inj hS.kd a1 g1
        subst this
        refine .inl ⟨a, a1, ?_⟩
        show (S.rs.set a _)[a]? = _
        rw [getD_set hsl, if_pos rfl, getD_of a2]
      · exact absurd (List.mem_of_getElem? g1) a1
  · refine ⟨fun k r hk hr => ?_, fun r hr => ?_⟩
    · rcases hr with ⟨a, a1, a2⟩ | ⟨a1, rfl⟩
      · refine .inl ⟨a, ?_, ?_⟩
        · show (S.ks ++ [key])[a]? = _
          rw [List.getElem?_append_left (List.getElem?_eq_some_iff.1 a1).1, a1]
        · show (S.rs ++ [1])[a]? = _
          rw [List.getElem?_append_left (List.getElem?_eq_some_iff.1 a2).1, a2]
      · refine .inr ⟨fun e => ?_, rfl⟩
        rcases List.mem_append.1 (show k ∈ S.ks ++ [key] from e) with e | e
        · exact a1 e
        · exact hk (by simpa using e)
    · rcases hr with ⟨a, a1, a2⟩ | ⟨a1, rfl⟩
      · exact absurd (List.mem_of_getElem? a1) g1
      · refine .inl ⟨S.ks.length, ?_, ?_⟩
        · show (S.ks ++ [key])[S.ks.length]? = _
          simp
        · show (S.rs ++ [1])[S.ks.length]? = _
          rw [← hS.rl]; simp
  · have hsi : S.rs[s]? = some 0 := (hS.im s).1 (by rw [g3]; exact List.mem_cons_self ..)
    have hsl := (List.getElem?_eq_some_iff.1 hsi).1
    have hkl : s < S.ks.length := (List.getElem?_eq_some_iff.1 g4).1
    refine ⟨fun k r hk hr => ?_, fun r hr => ?_⟩
    · rcases hr with ⟨a, a1, a2⟩ | ⟨a1, rfl⟩
      · by_cases e : a = s
        · subst e
          rw [hsi] at a2
          obtain rfl := Option.some.inj a2
          refine .inr ⟨fun e => ?_, rfl⟩
          have e : k ∈ S.ks.set a key := e
          rcases List.mem_or_eq_of_mem_set e with _ | e2
          · obtain ⟨b, hb⟩ := List.getElem?_of_mem e
            by_cases hba : b = a
            · subst hba
              rw [List.getElem?_set_self hkl] at hb
              exact hk (Option.some.inj hb).symm
            · rw [List.getElem?_set_ne (fun e => hba e.symm)] at hb
              exact hba (nodup_inj hS.kd hb a1)
          · exact hk e2
        · refine .inl ⟨a, ?_, ?_⟩
          · show (S.ks.set s key)[a]? = _
            rw [List.getElem?_set_ne (fun e2 => e e2.symm), a1]
          · show (S.rs.set s _)[a]? = _
            rw [getD_set hsl, if_neg e, a2]
      · refine .inr ⟨fun e => ?_, rfl⟩
        rcases List.mem_or_eq_of_mem_set (show k ∈ S.ks.set s key from e) with e | e
        · exact a1 e
        · exact hk e
    · rcases hr with ⟨a, a1, a2⟩ | ⟨a1, rfl⟩
      · exact absurd (List.mem_of_getElem? a1) g1
      · refine .inl ⟨s, ?_, ?_⟩
        · show (S.ks.set s key)[s]? = _
          rw [List.getElem?_set_self hkl]
        · show (S.rs.set s _)[s]? = _
          rw [getD_set hsl, if_pos rfl]
          show some (S.rs.getD s 0 + 1) = _
          rw [getD_of hsi]
  · omega
theorem PutRes.refs {S S' : LS} {M : Nat} (hS : S.Ok M) {key : Int} {er : Int} (h : PutRes S key S' er) (he : er = 0) : (∀ k r, k ≠ key → RefRes S k r → RefRes S' k r) ∧ ∃ r, RefRes S key (r + 1) ∧ RefRes S' key r := by
  rcases h with ⟨-, -, rfl⟩ | ⟨s, r, g1, g2, rfl, -⟩
  · omega
  · have hsl := (List.getElem?_eq_some_iff.1 g2).1
    refine ⟨fun k t hk hr => ?_, r, .inl ⟨s, g1, g2⟩, .inl ⟨s, g1, ?_⟩⟩
    · rcases hr with ⟨a, a1, a2⟩ | ⟨a1, rfl⟩
      · refine .inl ⟨a, a1, ?_⟩
        show (S.rs.set s _)[a]? = _
        rw [getD_set hsl, if_neg (fun e => hk (by rw [e, g1] at a1; exact (Option.some.inj a1).symm)), a2]
      · exact .inr ⟨a1, rfl⟩
    · show (S.rs.set s _)[s]? = _
      rw [getD_set hsl, if_pos rfl, getD_of g2]
      rfl
theorem PutRes.same {S S' : LS} {key : Int} {er : Int} (h : PutRes S key S' er) (he : er ≠ 0) : S' = S := by
  rcases h with ⟨-, h, -⟩ | ⟨s, r, -, -, -, h⟩
  · exact h
  · exact absurd h he
/-- the book of Keeps says what the log does -/
structure Kb (S : LS) (L : List Us) (ext i : Nat) : Prop where
  kd : (L.map Us.key).Nodup
  rg : ∀ u ∈ L, 0 ≤ u.key ∧ u.key < (ext : Int)
  gb : ∀ u ∈ L, u.back ≤ u.got ∧ u.got ≤ i
  rf : ∀ u ∈ L, RefRes S u.key (u.got - u.back)
  cv : ∀ k r, RefRes S k r → 0 < r → ∃ u ∈ L, u.key = k
theorem Kb.start (slots ext : Nat) : Kb ⟨slots, [], [], [], []⟩ [] ext 0 := ⟨List.Pairwise.nil, fun u hu => by simp at hu, fun u hu => by simp at hu, fun u hu => by simp at hu, fun k r h hr => by
  have := h.pos hr
  simp at this⟩
theorem Kb.next {S : LS} {L : List Us} {ext i : Nat} (h : Kb S L ext i) : Kb S L ext (i + 1) := ⟨h.kd, h.rg, fun u hu => by have := h.gb u hu; omega, h.rf, h.cv⟩
theorem Kb.len {S : LS} {L : List Us} {ext i : Nat} (h : Kb S L ext i) : L.length ≤ ext := by
  have hn : (L.map fun u => u.key.toNat).Nodup := by
    have hk := h.kd
    rw [List.Nodup, List.pairwise_map] at hk ⊢
    exact hk.imp_of_mem fun {a b} ha hb hab e => hab (by have := h.rg a ha; have := h.rg b hb; omega)
  have := nodup_bound (n := ext) hn fun x hx => by
    obtain ⟨u, hu, rfl⟩ := List.mem_map.1 hx
    have := h.rg u hu
    omega
  simpa using this
theorem Kb.uniq {S : LS} {L : List Us} {ext i : Nat} (h : Kb S L ext i) {a b : Nat} {u v : Us} (ha : L[a]? = some u) (hb : L[b]? = some v) (e : u.key = v.key) : a = b :=
  nodup_inj (l := L.map Us.key) h.kd (by rw [List.getElem?_map, ha]; rfl) (by rw [List.getElem?_map, hb, Option.map_some, ← e])
theorem mem_set_key {L : List Us} {j : Nat} {u' : Us} (hk : ∀ u, L[j]? = some u → u'.key = u.key) : (L.set j u').map Us.key = L.map Us.key := by
  refine List.ext_getElem? fun n => ?_
  rw [List.getElem?_map, List.getElem?_map]
  by_cases e : n = j
  · subst e
    by_cases hl : n < L.length
    · rw [List.getElem?_set_self hl, List.getElem?_eq_getElem hl]
      simp [hk _ (List.getElem?_eq_getElem hl)]
    · rw [List.getElem?_eq_none (by simp; omega), List.getElem?_eq_none (by omega)]
  · rw [List.getElem?_set_ne (fun h => e h.symm)]
/-- a line of the book and the references of its key turn alike -/
theorem Kb.line {S S' : LS} {M : Nat} {L : List Us} {ext i j : Nat} {u u' : Us} (h : Kb S L ext i) (hS : S.Ok M) (hS' : S'.Ok (M + 1)) (hj : L[j]? = some u) (hk : u'.key = u.key) (hg : u'.back ≤ u'.got ∧ u'.got ≤ i + 1) (ho : ∀ k r, k ≠ u.key → RefRes S k r → RefRes S' k r) (hr : RefRes S' u.key (u'.got - u'.back)) : Kb S' (L.set j u') ext (i + 1) := by
  have hmem : u ∈ L := List.mem_of_getElem? hj
  have hcase : ∀ v ∈ L.set j u', v = u' ∨ (v ∈ L ∧ v.key ≠ u.key) := fun v hv => by
    rcases mem_set_cases hv with e | ⟨b, hb, hv⟩
    · exact .inl e
    · refine .inr ⟨List.mem_of_getElem? hv, fun e => hb (h.uniq hv hj e)⟩
  refine ⟨by rw [mem_set_key fun w hw => by rw [hj] at hw; obtain rfl := Option.some.inj hw; exact hk]; exact h.kd, fun v hv => ?_, fun v hv => ?_, fun v hv => ?_, fun k r hkr hpos => ?_⟩
  · rcases hcase v hv with rfl | ⟨h1, -⟩
    · rw [hk]; exact h.rg u hmem
    · exact h.rg v h1
  · rcases hcase v hv with rfl | ⟨h1, -⟩
    · exact hg
    · have := h.gb v h1; omega
  · rcases hcase v hv with rfl | ⟨h1, h2⟩
    · rw [hk]; exact hr
    · exact ho _ _ h2 (h.rf v h1)
  · have key : ∀ x ∈ L, ∃ y ∈ L.set j u', y.key = x.key := fun x hx => by
      have : x.key ∈ (L.set j u').map Us.key := by
        rw [mem_set_key fun w hw => by rw [hj] at hw; obtain rfl := Option.some.inj hw; exact hk]
        exact List.mem_map.2 ⟨x, hx, rfl⟩
      obtain ⟨y, hy, e⟩ := List.mem_map.1 this
      exact ⟨y, hy, e⟩
    by_cases e : k = u.key
    · obtain ⟨y, hy, e2⟩ := key u hmem
      exact ⟨y, hy, by rw [e2, e]⟩
    · obtain ⟨r0, hr0⟩ := RefRes.total hS k
      have := RefRes.uniq hS' (ho k r0 e hr0) hkr
      subst this
      obtain ⟨x, hx, e2⟩ := h.cv k r0 hr0 hpos
      obtain ⟨y, hy, e3⟩ := key x hx
      exact ⟨y, hy, by rw [e3, e2]⟩
/-- a new line -/
theorem Kb.more {S S' : LS} {M : Nat} {L : List Us} {ext i : Nat} {key : Int} (h : Kb S L ext i) (hS : S.Ok M) (hS' : S'.Ok (M + 1)) (hn : ∀ u ∈ L, u.key ≠ key) (hr0 : 0 ≤ key ∧ key < (ext : Int)) (ho : ∀ k r, k ≠ key → RefRes S k r → RefRes S' k r) (hr : ∀ r, RefRes S key r → RefRes S' key (r + 1)) : Kb S' (L ++ [⟨key, 1, 0, 0⟩]) ext (i + 1) := by
  have h0 : RefRes S key 0 := by
    obtain ⟨r, hr⟩ := RefRes.total hS key
    by_cases hz : r = 0
    · subst hz; exact hr
    · obtain ⟨u, hu, e⟩ := h.cv key r hr (by omega)
      exact absurd e (hn u hu)
  have hcase : ∀ v ∈ L ++ [⟨key, 1, 0, 0⟩], v = ⟨key, 1, 0, 0⟩ ∨ v ∈ L := fun v hv => by
    rcases List.mem_append.1 hv with e | e
    · exact .inr e
    · exact .inl (by simpa using e)
  refine ⟨?_, fun v hv => ?_, fun v hv => ?_, fun v hv => ?_, fun k r hkr hpos => ?_⟩
  · rw [List.map_append, List.nodup_append]
    refine ⟨h.kd, by simp, fun a ha b hb e => ?_⟩
    simp at hb
    obtain ⟨u, hu, e2⟩ := List.mem_map.1 ha
    exact hn u hu (by rw [e2, e, hb])
  · rcases hcase v hv with rfl | h1
    · exact hr0
    · exact h.rg v h1
  · rcases hcase v hv with rfl | h1
    · simp
    · have := h.gb v h1; omega
  · rcases hcase v hv with rfl | h1
    · exact hr 0 h0
    · exact ho _ _ (hn v h1) (h.rf v h1)
  · by_cases e : k = key
    · exact ⟨⟨key, 1, 0, 0⟩, by simp, e.symm⟩
    · obtain ⟨r0, hr0⟩ := RefRes.total hS k
      have := RefRes.uniq hS' (ho k r0 e hr0) hkr
      subst this
      obtain ⟨x, hx, e2⟩ := h.cv k r0 hr0 hpos
      exact ⟨x, List.mem_append_left _ hx, e2⟩
def busyN (L : List Us) : Nat := (L.filter fun u => u.got != u.back).length
def idleN (L : List Us) : Nat := (L.filter fun u => u.got == u.back).length
theorem busy_idle (L : List Us) : busyN L + idleN L = L.length := by
  unfold busyN idleN
  induction L with
  | nil => rfl
  | cons u L ih =>
    by_cases e : u.got = u.back
    · simp [List.filter_cons, e] at ih ⊢; omega
    · simp [List.filter_cons, e] at ih ⊢; omega
/-- those that have references -/
theorem Kb.busy {S : LS} {M : Nat} {L : List Us} {ext i : Nat} (h : Kb S L ext i) (hS : S.Ok M) : busyN L = ((List.range S.ks.length).filter fun s => decide (0 < S.rs.getD s 0)).length := by
  have hp : ((L.filter fun u => u.got != u.back).map Us.key).Perm (((List.range S.ks.length).filter fun s => decide (0 < S.rs.getD s 0)).map fun s => S.ks.getD s 0) := by
    refine (List.perm_ext_iff_of_nodup ?_ ?_).2 fun k => ?_
    · exact h.kd.sublist (List.filter_sublist.map _)
    · refine List.Pairwise.map (R := fun a b => a ≠ b ∧ a < S.ks.length ∧ b < S.ks.length) _ (fun a b hab e => ?_) ?_
      · have h1 : S.ks[a]? = some (S.ks.getD a 0) := by simp [List.getD, hab.2.1]
        have h2 : S.ks[b]? = some (S.ks.getD b 0) := by simp [List.getD, hab.2.2]
        rw [e] at h1
        exact hab.1 (nodup_inj hS.kd h1 h2)
      · refine List.Pairwise.filter _ ?_
        exact List.Pairwise.imp_of_mem (R := fun a b => a ≠ b) (fun {a b} ha hb hab => ⟨hab, List.mem_range.1 ha, List.mem_range.1 hb⟩) List.nodup_range
    · constructor
      · intro hk
        obtain ⟨u, hu, rfl⟩ := List.mem_map.1 hk
        obtain ⟨hu1, hu2⟩ := List.mem_filter.1 hu
        have hu2 : u.got ≠ u.back := by simpa using hu2
        have hgb := h.gb u hu1
        rcases h.rf u hu1 with ⟨s, h1, h2⟩ | ⟨-, e⟩
        · refine List.mem_map.2 ⟨s, List.mem_filter.2 ⟨List.mem_range.2 (List.getElem?_eq_some_iff.1 h1).1, ?_⟩, by simp [List.getD, h1]⟩
          rw [getD_of h2]
          simp; omega
        · omega
      · intro hk
        obtain ⟨s, hs, rfl⟩ := List.mem_map.1 hk
        obtain ⟨hs1, hs2⟩ := List.mem_filter.1 hs
        have hs1 := List.mem_range.1 hs1
        have hs2 : 0 < S.rs.getD s 0 := by simpa using hs2
        have hrl : s < S.rs.length := by rw [hS.rl]; exact hs1
        have hr : RefRes S (S.ks.getD s 0) (S.rs.getD s 0) := .inl ⟨s, by simp [List.getD, hs1], by simp [List.getD, hrl]⟩
        obtain ⟨u, hu, e⟩ := h.cv _ _ hr hs2
        have := RefRes.uniq hS (e ▸ h.rf u hu) hr
        refine List.mem_map.2 ⟨u, List.mem_filter.2 ⟨hu, ?_⟩, e⟩
        simp; omega
  have := hp.length_eq
  simpa [busyN] using this
/-- all slots are taken by such with references -/
theorem Kb.full {S : LS} {M : Nat} {L : List Us} {ext i : Nat} (h : Kb S L ext i) (hS : S.Ok M) : busyN L ≤ S.slots ∧ (busyN L = S.slots ↔ S.ks.length = S.slots ∧ S.idle = []) := by
  have hb := h.busy hS
  have hle : ((List.range S.ks.length).filter fun s => decide (0 < S.rs.getD s 0)).length ≤ S.ks.length := by
    have := List.length_filter_le (fun s => decide (0 < S.rs.getD s 0)) (List.range S.ks.length)
    simpa using this
  have hkl := hS.kl
  refine ⟨by omega, fun e => ?_, fun ⟨e1, e2⟩ => ?_⟩
  · refine ⟨by omega, ?_⟩
    have hall : ((List.range S.ks.length).filter fun s => decide (0 < S.rs.getD s 0)).length = (List.range S.ks.length).length := by rw [List.length_range]; omega
    have hall := List.length_filter_eq_length_iff.1 hall
    cases hi : S.idle with
    | nil => rfl
    | cons s t =>
      have h0 : S.rs[s]? = some 0 := (hS.im s).1 (by rw [hi]; exact List.mem_cons_self ..)
      have hsl : s < S.ks.length := by rw [← hS.rl]; exact (List.getElem?_eq_some_iff.1 h0).1
      have := hall s (List.mem_range.2 hsl)
      rw [getD_of h0] at this
      simp at this
  · rw [hb, ← e1]
    have : ((List.range S.ks.length).filter fun s => decide (0 < S.rs.getD s 0)).length = (List.range S.ks.length).length := by
      refine List.length_filter_eq_length_iff.2 fun s hs => ?_
      have hs := List.mem_range.1 hs
      have hrl : s < S.rs.length := by rw [hS.rl]; exact hs
      by_cases hz : S.rs.getD s 0 = 0
      · have : s ∈ S.idle := (hS.im s).2 (by rw [List.getElem?_eq_getElem hrl]; simp [List.getD, hrl] at hz; rw [hz])
        rw [e2] at this
        simp at this
      · exact decide_eq_true (Nat.pos_of_ne_zero hz)
    simpa using this
end Go.Proofs.Ytlkccencilhacaa
namespace Go.Proofs.Ytlkccencilhacaa
open Go.RowKit Go.Sort
set_option linter.unusedVariables false
set_option linter.unusedSimpArgs false
set_option maxRecDepth 20000

theorem findK_any {base : Nat} {w : World} {v : Value} {L : List Us} (h : BkR base w v L) (hl : L.length ≤ 2000) (key : Int) :
    Calls Try.prog 28 #[v, .int .i64 key] w fun e w' => ∃ r, e = .returned (.int .i64 r) ∧ w' = w ∧ FRes L key r := by
  have HAT : Hid (∀ i, i < L.length → ∃ g cap cs, v = .slice (some ⟨g, 0, none⟩) L.length cap ∧ base ≤ g ∧ w.heap[g]? = some (.cells cs 66 (0, 0)) ∧ w.cell? ⟨g, i * 4, none⟩ = some (.int .i64 (L.getD i ⟨0, 0, 0, 0⟩).key)) := hide fun i hi => by
    have hu : L[i]? = some (L.getD i ⟨0, 0, 0, 0⟩) := by simp [List.getD, hi]
    obtain ⟨g, cap, cs, q1, q2, q3, q4, -⟩ := h.at hu
    exact ⟨g, cap, cs, q1, q2, q3, q4⟩
  have HU : Hid (∀ i, i < L.length → L[i]? = some (L.getD i ⟨0, 0, 0, 0⟩)) := hide fun i hi => by simp [List.getD, hi]
  have HNO : Hid ((∀ i, i < L.length → (L.getD i ⟨0, 0, 0, 0⟩).key ≠ key) → ∀ u ∈ L, u.key ≠ key) := hide fun h u hu => by
    obtain ⟨i, hi⟩ := List.getElem?_of_mem hu
    have hil := (List.getElem?_eq_some_iff.1 hi).1
    have := h i hil
    have e : L.getD i ⟨0, 0, 0, 0⟩ = u := by simp [List.getD, hi]
    rwa [e] at this
  obtain ⟨a, cap, rfl, h1, h2⟩ := h.form
  unfold maxLen at h2
  clear h
  generalize hn : L.length = n at *
  clear hn
  go_enter Try.func28, Try.ntmps28
  go_wp2_with fail
  go_loopw [5] (fun x wr => ∃ i : Nat, i ≤ n ∧ x = .int .i64 (i : Int) ∧ wr = w ∧ ∀ j, j < i → (L.getD j ⟨0, 0, 0, 0⟩).key ≠ key) (fun x _ => n - (intOf x).toNat)
  case atStart => exact ⟨0, Nat.zero_le _, rfl, rfl, fun j hj => by omega⟩
  case round =>
    obtain ⟨i, hin, rfl, rfl, hno⟩ := hrel
    have HN := hide hno
    clear hno
    by_cases hlt : i < n
    · obtain ⟨g, cap', cs, e, -, -, hc⟩ := HAT.out i hlt
      simp only [Value.slice.injEq] at e
      obtain ⟨rfl, -, -⟩ := e
      have HUI := hide (HU.out i hlt)
      by_cases hk : (L.getD i ⟨0, 0, 0, 0⟩).key = key
      · have HFR : Hid (FRes L key (i : Int)) := hide (.inl ⟨i, _, HU.out i hlt, hk, rfl⟩)
        have b1 : ((L.getD i ⟨0, 0, 0, 0⟩).key == key) = true := by simpa using hk
        clear hk
        generalize (L.getD i ⟨0, 0, 0, 0⟩).key = kk at *
        have e2 : kk = key := by simpa using b1
        subst e2
        clear b1
        go_wp2_with fail
        go_ret
        exact ⟨_, rfl, rfl, HFR.out⟩
      · have HK := hide hk
        have b1 : ((L.getD i ⟨0, 0, 0, 0⟩).key == key) = false := by simpa using hk
        clear hk
        have HNX : Hid (∀ j, j < i + 1 → (L.getD j ⟨0, 0, 0, 0⟩).key ≠ key) := hide fun j hj => by
          by_cases e : j = i
          · subst e; exact HK.out
          · exact HN.out j (by omega)
        generalize (L.getD i ⟨0, 0, 0, 0⟩).key = kk at *
        go_wp2_with fail
        go_roundw
        case rel => exact ⟨i + 1, by omega, by go_num, trivial, HNX.out⟩
        case measure => simp [intOf]; omega
    · have ei : i = n := by omega
      subst ei
      go_wp2_with fail
      go_ret
      exact ⟨_, rfl, rfl, .inr ⟨HNO.out HN.out, rfl⟩⟩
theorem idleN_step {L : List Us} {i : Nat} (hi : i < L.length) : idleN (L.take (i + 1)) = idleN (L.take i) + if (ub L i).got = (ub L i).back then 1 else 0 := by
  unfold idleN
  rw [List.take_add_one, ub_of hi, List.filter_append, List.length_append]
  by_cases e : (ub L i).got = (ub L i).back
  · simp [e]
  · simp [e]
theorem idleN_le (L : List Us) (i : Nat) : idleN (L.take i) ≤ i := by
  unfold idleN
  have h1 := List.length_filter_le (fun u => u.got == u.back) (L.take i)
  have h2 : (L.take i).length ≤ i := by simp; omega
  omega
theorem rowCellA {w : World} {e : TypeId} {v : Value} {xs : List Value} (h : w.ownsRow 0 e 1 v xs.length xs) {j : Nat} {x : Value} (hj : xs[j]? = some x) : ∃ g cap, v = .slice (some ⟨g, 0, none⟩) xs.length cap ∧ w.cell? ⟨g, j, none⟩ = some x := by
  have hl : j < xs.length := (List.getElem?_eq_some_iff.1 hj).1
  have h' := h
  rcases h.2 with ⟨_, e⟩ | ⟨g, cap, cur, rfl, _, hg, _⟩
  · omega
  · exact ⟨g, cap, rfl, by rw [h'.cellAt j (by omega)]; exact hj⟩
/-- ints in memory -/
def IR (w : World) (v : Value) (T : List Int) : Prop := w.ownsRow 0 3 1 v T.length (T.map iV)
theorem IR.at {w : World} {v : Value} {T : List Int} (h : IR w v T) {i : Nat} (hi : i < T.length) : ∃ g cap, v = .slice (some ⟨g, 0, none⟩) T.length cap ∧ w.cell? ⟨g, i, none⟩ = some (.int .i64 (T.getD i 0)) := by
  have h' : w.ownsRow 0 3 1 v (T.map iV).length (T.map iV) := by rw [List.length_map]; exact h
  obtain ⟨g, cap, e, h1⟩ := rowCellA (x := .int .i64 (T.getD i 0)) (j := i) h' (by simp [List.getElem?_map, List.getD, hi, iV])
  exact ⟨g, cap, by rw [e, List.length_map], h1⟩
set_option maxHeartbeats 1000000 in
theorem has_any {w : World} {v : Value} {T : List Int} (h : IR w v T) (hl : T.length ≤ 2000) (x : Int) :
    Calls Try.prog 52 #[v, .int .i64 x] w fun e w' => e = .returned (.bool (decide (x ∈ T))) ∧ w' = w := by
  have HAT : Hid (∀ i, i < T.length → ∃ g cap, v = .slice (some ⟨g, 0, none⟩) T.length cap ∧ w.cell? ⟨g, i, none⟩ = some (.int .i64 (T.getD i 0))) := hide fun i hi => h.at hi
  have HYES : Hid (∀ i, i < T.length → T.getD i 0 = x → decide (x ∈ T) = true) := hide fun i hi e => decide_eq_true (by rw [← e]; simp [List.getD, hi])
  have HNO : Hid ((∀ i, i < T.length → T.getD i 0 ≠ x) → decide (x ∈ T) = false) := hide fun h => decide_eq_false fun e => by
    obtain ⟨i, hi⟩ := List.getElem?_of_mem e
    have hil := (List.getElem?_eq_some_iff.1 hi).1
    exact h i hil (by simp [List.getD, hi])
  obtain ⟨a, cap, rfl, h1, h2⟩ := rowForm h
  unfold maxLen at h2
  clear h
  generalize decide (x ∈ T) = R at *
  generalize hn : T.length = n at *
  clear hn
  go_enter Try.func52, Try.ntmps52
  go_wp2_with fail
  go_loopw [5] (fun y wr => ∃ (i : Nat), i ≤ n ∧ y = .int .i64 (i : Int) ∧ wr = w ∧ ∀ j, j < i → T.getD j 0 ≠ x) (fun y _ => n - (intOf y).toNat)
  case atStart => exact ⟨0, Nat.zero_le _, rfl, rfl, fun j hj => by omega⟩
  case round =>
    obtain ⟨i, hin, rfl, rfl, hno⟩ := hrel
    have HN := hide hno
    clear hno
    by_cases hlt : i < n
    · obtain ⟨g, cap', e, r1⟩ := HAT.out i hlt
      simp only [Value.slice.injEq] at e
      obtain ⟨rfl, -, -⟩ := e
      by_cases heq : T.getD i 0 = x
      · have hR := HYES.out i hlt heq
        subst hR
        have hb : (T.getD i 0 == x) = true := by simpa using heq
        clear heq
        generalize T.getD i 0 = z at *
        go_wp2_with fail
        go_ret
        exact ⟨rfl, rfl⟩
      · have hb : (T.getD i 0 == x) = false := by simpa using heq
        have HNX : Hid (∀ j, j < i + 1 → T.getD j 0 ≠ x) := hide fun j hj => by
          by_cases e : j = i
          · subst e; exact heq
          · exact HN.out j (by omega)
        clear heq
        generalize T.getD i 0 = z at *
        go_wp2_with fail
        go_roundw
        case rel => exact ⟨i + 1, by omega, by go_num, trivial, HNX.out⟩
        case measure => simp [intOf]; omega
    · have ei : i = n := by omega
      subst ei
      have hR := HNO.out HN.out
      subst hR
      go_wp2_with fail
      go_ret
      exact ⟨rfl, rfl⟩
end Go.Proofs.Ytlkccencilhacaa
namespace Go.Proofs
open Go.Shelf
def Try.sortA_ren : Go.Shelf.Ren := ⟨fun | 5 => 74 | 8 => 99 | 7 => 98 | 19 => 113 | 20 => 114 | 10 => 104 | 11 => 105 | 12 => 106 | 13 => 107 | 14 => 108 | 15 => 109 | 16 => 110 | 17 => 111 | 18 => 112 | 30 => 118 | 31 => 119 | 32 => 120 | 33 => 121 | 34 => 122 | 35 => 123 | 40 => 124 | n => n, fun | 23 => 25 | 25 => 3 | 3 => 3 | 32 => 111 | 22 => 25 | 0 => 0 | 44 => 26 | 46 => 162 | 4 => 4 | 36 => 156 | 35 => 155 | 41 => 141 | 5 => 5 | 9 => 9 | 53 => 166 | 57 => 170 | 63 => 172 | 64 => 173 | n => n, fun | n => n⟩
theorem Try.sortA : Go.Proofs.SlLaysM.n5 Try.prog Try.sortA_ren := {
  mixed := by kernel_rfl
  f5 := ⟨Try.f74.name, by decide, Try.func74.trans (congrArg some (by kernel_rfl))⟩
  f7 := ⟨Try.f98.name, by decide, Try.func98.trans (congrArg some (by kernel_rfl))⟩
  f8 := Try.func99.trans (congrArg some (by kernel_rfl))
  f10 := ⟨Try.f104.name, by decide, Try.func104.trans (congrArg some (by kernel_rfl))⟩
  f11 := ⟨Try.f105.name, by decide, Try.func105.trans (congrArg some (by kernel_rfl))⟩
  f12 := ⟨Try.f106.name, by decide, Try.func106.trans (congrArg some (by kernel_rfl))⟩
  f13 := ⟨Try.f107.name, by decide, Try.func107.trans (congrArg some (by kernel_rfl))⟩
  f14 := ⟨Try.f108.name, by decide, Try.func108.trans (congrArg some (by kernel_rfl))⟩
  f15 := ⟨Try.f109.name, by decide, Try.func109.trans (congrArg some (by kernel_rfl))⟩
  f16 := ⟨Try.f110.name, by decide, Try.func110.trans (congrArg some (by kernel_rfl))⟩
  f17 := ⟨Try.f111.name, by decide, Try.func111.trans (congrArg some (by kernel_rfl))⟩
  f18 := ⟨Try.f112.name, by decide, Try.func112.trans (congrArg some (by kernel_rfl))⟩
  f19 := Try.func113.trans (congrArg some (by kernel_rfl))
  f20 := Try.func114.trans (congrArg some (by kernel_rfl))
  f30 := ⟨Try.f118.name, by decide, Try.func118.trans (congrArg some (by kernel_rfl))⟩
  f31 := Try.func119.trans (congrArg some (by kernel_rfl))
  f32 := Try.func120.trans (congrArg some (by kernel_rfl))
  f33 := ⟨Try.f121.name, by decide, Try.func121.trans (congrArg some (by kernel_rfl))⟩
  f34 := ⟨Try.f122.name, by decide, Try.func122.trans (congrArg some (by kernel_rfl))⟩
  f35 := ⟨Try.f123.name, by decide, Try.func123.trans (congrArg some (by kernel_rfl))⟩
  f40 := ⟨Try.f124.name, by decide, Try.func124.trans (congrArg some (by kernel_rfl))⟩
  t0 := Try.underlying0
  a0 := Try.isAgg0
  z0 := Try.sizeOf0
  v0 := Try.zeroValue0
  t3 := Try.underlying3
  a3 := Try.isAgg3
  z3 := Try.sizeOf3
  v3 := Try.zeroValue3
  t4 := Try.underlying4
  a4 := Try.isAgg4
  z4 := Try.sizeOf4
  v4 := Try.zeroValue4
  t5 := Try.underlying5
  a5 := Try.isAgg5
  z5 := Try.sizeOf5
  v5 := Try.zeroValue5
  t9 := Try.underlying9
  a9 := Try.isAgg9
  z9 := Try.sizeOf9
  v9 := Try.zeroValue9
  t22 := Try.underlying25
  a22 := Try.isAgg25
  z22 := Try.sizeOf25
  v22 := Try.zeroValue25
  t23 := Try.underlying25
  a23 := Try.isAgg25
  z23 := Try.sizeOf25
  v23 := Try.zeroValue25
  t25 := Try.underlying3
  a25 := Try.isAgg3
  z25 := Try.sizeOf3
  v25 := Try.zeroValue3
  t32 := Try.underlying111
  a32 := Try.isAgg111
  z32 := Try.sizeOf111
  v32 := Try.zeroValue111
  t35 := Try.underlying155
  a35 := Try.isAgg155
  z35 := Try.sizeOf155
  v35 := Try.zeroValue155
  t36 := Try.underlying156
  a36 := Try.isAgg156
  z36 := Try.sizeOf156
  v36 := Try.zeroValue156
  t41 := Try.underlying141
  a41 := Try.isAgg141
  z41 := Try.sizeOf141
  v41 := Try.zeroValue141
  t44 := Try.underlying26
  a44 := Try.isAgg26
  z44 := Try.sizeOf26
  v44 := Try.zeroValue26
  t46 := Try.underlying162
  a46 := Try.isAgg162
  z46 := Try.sizeOf162
  v46 := Try.zeroValue162
  t53 := Try.underlying166
  a53 := Try.isAgg166
  z53 := Try.sizeOf166
  v53 := Try.zeroValue166
  t57 := Try.underlying170
  a57 := Try.isAgg170
  z57 := Try.sizeOf170
  v57 := Try.zeroValue170
  t63 := Try.underlying172
  a63 := Try.isAgg172
  z63 := Try.sizeOf172
  v63 := Try.zeroValue172
  t64 := Try.underlying173
  a64 := Try.isAgg173
  z64 := Try.sizeOf173
  v64 := Try.zeroValue173 }
end Go.Proofs
namespace Go.Proofs.Ytlkccencilhacaa
open Go.RowKit Go.Maps Go.Sort Go.Shelf
set_option linter.unusedVariables false
set_option linter.unusedSimpArgs false
set_option maxRecDepth 20000

theorem sort_any (w : World) (v : Value) (T : List Int) (h : IR w v T) (hl : T.length ≤ 5000) : Calls Try.prog 74 #[v] w fun e w' => e = .returned (.tuple #[]) ∧ IR w' v (T.mergeSort fun x y => decide (x ≤ y)) ∧ Chg (fun g => v.ownBlock = some g) w w' := by
  have h' : w.ownsRow 0 3 1 v T.length (T.map fun z => Value.int .i64 z) := h
  by_cases hv : v = .slice none 0 0
  · subst hv
    have e0 : T = [] := by
      have := h'.2
      rcases this with ⟨_, e⟩ | ⟨g, cap, cur, e, _⟩
      · exact List.length_eq_zero_iff.1 e
      · cases e
    subst e0
    refine (AnyM.slices_Sort_int_none Try.sortA none 0 w).mono ?_
    rintro e w' ⟨rfl, rfl⟩
    exact ⟨rfl, by rw [List.mergeSort_nil]; exact h, Chg.refl _ _⟩
  · obtain ⟨g, cap, rfl, -, hlt, hn, hm, -, hH⟩ := Lib.holds_of_ownsRow h' hv
    refine (AnyM.slices_Sort_int Try.sortA g 0 cap T w hH hlt (by omega)).mono ?_
    rintro e w' ⟨rfl, n, os, rfl⟩
    have hp := Lib.ownsRow_putRow (q := n) (k := T.length) (ys := T.mergeSort fun x y => decide (x ≤ y)) h' (by simp) (Nat.le_refl _)
    rw [List.take_of_length_le (by simp)] at hp
    have hsz : (putRow (Value.int .i64) (Sort.ahead w n) g 0 (T.mergeSort fun x y => decide (x ≤ y)).toArray).heap.size = w.heap.size := by simp [putRow, mapBlock, Sort.ahead]
    have hgr : ∀ (b : Nat), b < w.heap.size → (grow (putRow (Value.int .i64) (Sort.ahead w n) g 0 (T.mergeSort fun x y => decide (x ≤ y)).toArray) os).heap[b]? = (putRow (Value.int .i64) (Sort.ahead w n) g 0 (T.mergeSort fun x y => decide (x ≤ y)).toArray).heap[b]? := fun b hb => by
      show (_ ++ os)[b]? = _
      rw [Array.getElem?_append_left (by rw [hsz]; exact hb)]
    refine ⟨rfl, ?_, ⟨rfl, rfl, rfl, ?_, fun b hb hne => ?_⟩⟩
    · have hi : IR (putRow (Value.int .i64) (Sort.ahead w n) g 0 (T.mergeSort fun x y => decide (x ≤ y)).toArray) (.slice (some ⟨g, 0, none⟩) T.length cap) (T.mergeSort fun x y => decide (x ≤ y)) := by
        unfold IR
        rw [List.length_mergeSort]
        exact hp
      refine rowKept hi fun b eb => hgr b ?_
      simp [Value.ownBlock] at eb
      omega
    · show w.heap.size ≤ (_ ++ os).size
      rw [Array.size_append, hsz]
      omega
    · rw [hgr b hb]
      have : g ≠ b := fun e => hne (by simp [Value.ownBlock, e])
      simp [putRow, mapBlock, Sort.ahead, Array.getElem?_modify, this]
theorem keys_mem {S : LS} {M : Nat} (hS : S.Ok M) {k : Int} (h : k ∈ S.ks) : k ∈ S.keys := by
  obtain ⟨s, hs⟩ := List.getElem?_of_mem h
  have hl := (List.getElem?_eq_some_iff.1 hs).1
  have hrl : s < S.rs.length := by rw [hS.rl]; exact hl
  have hg : S.ks.getD s 0 = k := by simp [List.getD, hs]
  unfold LS.keys
  by_cases hz : S.rs.getD s 0 = 0
  · exact List.mem_append_left _ (List.mem_map.2 ⟨s, (hS.im s).2 (by rw [List.getElem?_eq_getElem hrl]; simp [List.getD, hrl] at hz; rw [hz]), hg⟩)
  · exact List.mem_append_right _ (List.mem_map.2 ⟨s, List.mem_filter.2 ⟨List.mem_range.2 hl, decide_eq_true (Nat.pos_of_ne_zero hz)⟩, hg⟩)
/-- what Hot gives: the keys, rising -/
def hotL (S : LS) : List Int := S.keys.mergeSort fun x y => decide (x ≤ y)
set_option maxHeartbeats 1000000 in
theorem hot_any {w : World} {lp p bm M : Nat} {kv rv iv : Value} {S : LS} {ext size first written : Nat} (h : LgR w lp p bm kv rv iv S ext size first written) (hS : S.Ok M) :
    Calls Try.prog 46 #[.pointer (some ⟨lp, 0, none⟩)] w fun e w' => ∃ v, e = .returned v ∧ IR w' v (hotL S) ∧ Below w.heap.size w w' ∧ ∀ b, v.ownBlock = some b → w.heap.size ≤ b := by
  have c0 : w.cell? ⟨lp, 0, none⟩ = some (.pointer (some ⟨p, 0, none⟩)) := h.c 0
  have HK := hide (Keys_any h.l hS)
  have HST := hide fun x v (hv : IR x v S.keys) => sort_any x v S.keys hv (by have := hS.keys_len; have := hS.kl; have := hS.s2; omega)
  clear h hS
  unfold hotL
  generalize S.keys = K at *
  go_enter Try.func46, Try.ntmps46
  go_wp2_with (first
    | (go_at_call 73; refine HK.out.mono ?_; rintro e w1 ⟨v, rfl, hv, hb, hn⟩; have HV := hide (show IR w1 v K from hv); have HB := hide hb; have HN := hide hn; clear hv hb hn HK)
    | (go_at_call 74; refine (HST.out _ _ HV.out).mono ?_; rintro e w2 ⟨rfl, h1, h2⟩; have H1 := hide h1; have H2 := hide h2; clear h1 h2 HST))
  go_ret
  exact ⟨_, rfl, H1.out, HB.out.trans (H2.out.below HB.out.size HN.out), HN.out⟩
end Go.Proofs.Ytlkccencilhacaa
namespace Go.Proofs.Ytlkccencilhacaa
open Go.RowKit Go.Sort
set_option linter.unusedVariables false
set_option linter.unusedSimpArgs false
set_option maxRecDepth 20000

/-- the Lru, and the law's book (Lm: as it lies in memory), both newer than w0 -/
def OS (w0 w : World) (n p : Nat) (bv : Value) (L Lm : List Us) (i : Nat) : Prop :=
  ∃ S bm kv rv iv, LRep w p bm kv rv iv S ∧ S.Ok i ∧ S.slots = n ∧ Lk S L i ∧ BkR w0.heap.size w bv Lm ∧ Below w0.heap.size w0 w ∧ ∀ b, LU p bm kv rv iv b → w0.heap.size ≤ b
theorem LRep.notBook {w : World} {p bm : Nat} {kv rv iv : Value} {S : LS} (h : LRep w p bm kv rv iv S) {base : Nat} {bv : Value} {L : List Us} (hb : BkR base w bv L) : ∀ g, bv.ownBlock = some g → ¬ LU p bm kv rv iv g := fun g hg => by
  obtain ⟨cs, hc⟩ := rowCells hb hg
  have key : ∀ (v : Value) (n : Nat) (xs : List Value), w.ownsRow 0 3 1 v n xs → v.ownBlock ≠ some g := fun v n xs hv e => by
    obtain ⟨ds, hd⟩ := rowCells hv e
    exact neType hc hd (by decide) rfl
  rintro (e | e | e | e | e)
  · exact neType hc h.row (by decide) e
  · exact h.mp.neCells hc e
  · exact key _ _ _ h.ko e
  · exact key _ _ _ h.ro e
  · exact key _ _ _ h.io e
theorem OS.bk {w0 w : World} {n p i : Nat} {bv : Value} {L Lm : List Us} (h : OS w0 w n p bv L Lm i) : BkR w0.heap.size w bv Lm := by
  obtain ⟨S, bm, kv, rv, iv, h1, h2, h3, h4, h5, h6, h7⟩ := h
  exact h5
theorem OS.be {w0 w : World} {n p i : Nat} {bv : Value} {L Lm : List Us} (h : OS w0 w n p bv L Lm i) : Below w0.heap.size w0 w := by
  obtain ⟨S, bm, kv, rv, iv, h1, h2, h3, h4, h5, h6, h7⟩ := h
  exact h6
theorem OS.len {w0 w : World} {n p i : Nat} {bv : Value} {L Lm : List Us} (h : OS w0 w n p bv L Lm i) : L.length ≤ n ∧ n ≤ 16 := by
  obtain ⟨S, bm, kv, rv, iv, h1, h2, h3, h4, h5, h6, h7⟩ := h
  have := h2.kl
  have := h2.s2
  have := h4.len
  omega
theorem OS.gb {w0 w : World} {n p i : Nat} {bv : Value} {L Lm : List Us} (h : OS w0 w n p bv L Lm i) : ∀ u ∈ L, u.got ≤ i ∧ u.back ≤ u.got := by
  obtain ⟨S, bm, kv, rv, iv, h1, h2, h3, h4, h5, h6, h7⟩ := h
  intro u hu
  obtain ⟨s, _, _, q⟩ := h4.fr u hu
  exact ⟨(h4.gb u hu).1, q⟩
theorem OS.below {w0 w w' : World} {n p i : Nat} {bv : Value} {L Lm : List Us} (h : OS w0 w n p bv L Lm i) (hb : Below w.heap.size w w') : OS w0 w' n p bv L Lm i := by
  obtain ⟨S, bm, kv, rv, iv, h1, h2, h3, h4, h5, h6, h7⟩ := h
  exact ⟨S, bm, kv, rv, iv, h1.below hb, h2, h3, h4, h5.kept fun g e => hb.block g (World.ownsRow.lt h5 g e).2, h6.trans (hb.mono h6.size), h7⟩
/-- the book lies elsewhere now -/
theorem OS.book {w0 w w' : World} {n p i : Nat} {bv bv' : Value} {L Lm Lm' : List Us} (h : OS w0 w n p bv L Lm i) (hb : BkR w0.heap.size w' bv' Lm') (hc : Chg (fun b => bv.ownBlock = some b) w w') : OS w0 w' n p bv' L Lm' i := by
  obtain ⟨S, bm, kv, rv, iv, h1, h2, h3, h4, h5, h6, h7⟩ := h
  exact ⟨S, bm, kv, rv, iv, h1.kept fun b e => hc.keep b (h1.lt b e) fun e2 => h1.notBook h5 b e2 e, h2, h3, h4, hb, h6.trans (hc.below h6.size fun b e => (World.ownsRow.lt h5 b e).1), h7⟩
theorem OS.store {w0 w : World} {n p i g cap : Nat} {L Lm : List Us} (h : OS w0 w n p (.slice (some ⟨g, 0, none⟩) Lm.length cap) L Lm i) {j f : Nat} {u u' : Us} (hj : Lm[j]? = some u) (hf : f < 4) {x : Value} (e : u'.cells = u.cells.set f x) : OS w0 (w.setCell ⟨g, j * 4 + f, none⟩ x) n p (.slice (some ⟨g, 0, none⟩) Lm.length cap) L (Lm.set j u') i :=
  h.book (h.bk.set hj hf e) ⟨rfl, rfl, rfl, by rw [World.size_setCell]; exact Nat.le_refl _, fun b _ hn => Go.heap_setCell_other _ _ _ _ fun e => hn (by rw [e]; rfl)⟩
/-- the Lru turns -/
theorem OS.turn {w0 w w' : World} {n p i : Nat} {bv : Value} {L' Lm : List Us} {S S' : LS} {bm : Nat} {kv rv iv kv' rv' iv' : Value} (h1 : LRep w p bm kv rv iv S) (h5 : BkR w0.heap.size w bv Lm) (h6 : Below w0.heap.size w0 w) (h7 : ∀ b, LU p bm kv rv iv b → w0.heap.size ≤ b) (q1 : LRep w' p bm kv' rv' iv' S') (q2 : S'.Ok (i + 1)) (q3 : S'.slots = n) (q4 : Lk S' L' (i + 1)) (q5 : Chg (LU p bm kv rv iv) w w') (q6 : LLoc w p bm kv rv iv kv' rv' iv') : OS w0 w' n p bv L' Lm (i + 1) :=
  ⟨S', bm, kv', rv', iv', q1, q2, q3, q4, h5.kept fun g e => q5.keep g (World.ownsRow.lt h5 g e).2 (h1.notBook h5 g e), h6.trans (q5.below h6.size h7), fun b e => (q6 b e).elim (h7 b) fun e => Nat.le_trans h6.size e⟩
theorem OS.put {w0 w : World} {n p i : Nat} {bv : Value} {L : List Us} {key : Int} (h : OS w0 w n p bv L L i) (hi : i ≤ 4611686018427387904) (hk : i64ok key) :
    Calls Try.prog 51 #[.pointer (some ⟨p, 0, none⟩), .int .i64 key] w fun e w' => ∃ er, e = .returned (.int .i64 er) ∧
      ((er = 42 ∧ (∀ u ∈ L, u.key = key → ¬ u.back < u.got) ∧ OS w0 w' n p bv L L (i + 1)) ∨
       (er = 0 ∧ ∃ (j : Nat) (u : Us), L[j]? = some u ∧ u.key = key ∧ u.back < u.got ∧ OS w0 w' n p bv (L.set j { u with back := u.back + 1, at_ := i }) L (i + 1))) := by
  obtain ⟨S, bm, kv, rv, iv, h1, h2, h3, h4, h5, h6, h7⟩ := h
  refine (Put_any h1 h2 hi hk).mono ?_
  rintro e w' ⟨S', er, iv', hr, rfl, q1, q2, q3, q4⟩
  refine ⟨er, rfl, ?_⟩
  rcases hr with ⟨r1, rfl, r2⟩ | ⟨s, r, r1, r2, rfl, r3⟩
  · refine .inl ⟨r2, fun u hu e => ?_, OS.turn h1 h5 h6 h7 q1 (q2.more (Nat.le_succ i)) h3 h4.next q3 q4⟩
    obtain ⟨s, z1, z2, z3⟩ := h4.fr u hu
    rw [e] at z1
    rw [r1 s z1] at z2
    have := Option.some.inj z2
    omega
  · obtain ⟨u, hu, eu⟩ := h4.ex s key r1
    obtain ⟨j, hj⟩ := List.getElem?_of_mem hu
    obtain ⟨t1, t2⟩ := h4.put h2 hj (by rw [eu]; exact r1) r2
    exact .inr ⟨r3, j, u, hj, eu, t2, OS.turn h1 h5 h6 h7 q1 (q2.more (Nat.le_succ i)) h3 t1 q3 q4⟩
def GCase (w0 w' : World) (n p i : Nat) (bv : Value) (L : List Us) (key : Int) (fresh : Bool) (old : Int) (gone : Bool) (er : Int) : Prop :=
  (∃ (j : Nat) (u : Us), L[j]? = some u ∧ u.key = key ∧ fresh = false ∧ gone = false ∧ er = 0 ∧ OS w0 w' n p bv (L.set j { u with got := u.got + 1 }) L (i + 1)) ∨
  ((∀ u ∈ L, u.key ≠ key) ∧ L.length < n ∧ fresh = true ∧ gone = false ∧ er = 0 ∧ OS w0 w' n p bv (L ++ [⟨key, 1, 0, 0⟩]) L (i + 1)) ∨
  ((∀ u ∈ L, u.key ≠ key) ∧ L.length = n ∧ fresh = true ∧ gone = true ∧ er = 0 ∧ (∀ k s, ORes L k s → s = true ∧ k = old) ∧ OS w0 w' n p bv (L.filter (fun u => decide (u.key ≠ old)) ++ [⟨key, 1, 0, 0⟩]) L (i + 1)) ∨
  ((∀ u ∈ L, u.key ≠ key) ∧ L.length = n ∧ fresh = false ∧ gone = false ∧ er = 41 ∧ (∀ k s, ORes L k s → s = false) ∧ OS w0 w' n p bv L L (i + 1))
theorem OS.get {w0 w : World} {n p i : Nat} {bv : Value} {L : List Us} {key : Int} (h : OS w0 w n p bv L L i) (hi : i ≤ 4611686018427387904) (hk : i64ok key) :
    Calls Try.prog 48 #[.pointer (some ⟨p, 0, none⟩), .int .i64 key] w fun e w' => ∃ (slot : Nat) (fresh : Bool) (old : Int) (gone : Bool) (er : Int), e = .returned (.tuple #[.int .i64 (slot : Int), .bool fresh, .int .i64 old, .bool gone, .int .i64 er]) ∧ GCase w0 w' n p i bv L key fresh old gone er := by
  obtain ⟨S, bm, kv, rv, iv, h1, h2, h3, h4, h5, h6, h7⟩ := h
  refine (Get_any h1 h2 hi hk).mono ?_
  rintro e w' ⟨S', slot, fresh, old, gone, er, kv', rv', iv', hr, rfl, q1, q2, q3, q4⟩
  refine ⟨slot, fresh, old, gone, er, rfl, ?_⟩
  have hno : key ∉ S.ks → ∀ u ∈ L, u.key ≠ key := fun hn u hu e => hn (h4.mem.2 ⟨u, hu, e⟩)
  rcases hr with ⟨s, r1, rfl, -, r3, r4, r5, r6⟩ | ⟨r1, r2, rfl, -, r3, r4, r5, r6⟩ | ⟨r1, r2, s, r, o, r7, r8, rfl, -, r3, r4, r5, r6⟩ | ⟨r1, r2, r7, rfl, -, r3, r4, r5, r6⟩
  · obtain ⟨u, hu, eu⟩ := h4.ex s key r1
    obtain ⟨j, hj⟩ := List.getElem?_of_mem hu
    exact .inl ⟨j, u, hj, eu, r3, r5, r6, OS.turn h1 h5 h6 h7 q1 q2 h3 (h4.take h2 hj (by rw [eu]; exact r1)) q3 q4⟩
  · exact .inr (.inl ⟨hno r1, by rw [h4.len, ← h3]; exact r2, r3, r5, r6, OS.turn h1 h5 h6 h7 q1 q2 h3 (h4.add h2 r1) q3 q4⟩)
  · subst r4
    refine .inr (.inr (.inl ⟨hno r1, by rw [h4.len, ← h3]; exact r2, r3, r5, r6, fun k s' ho => ?_, OS.turn h1 h5 h6 h7 q1 q2 h3 (h4.swap h2 r1 r7 r8) q3 q4⟩))
    rcases ho with ⟨z1, u, hu, z2, z3, z4⟩ | ⟨z1, z2, z3⟩
    · exact ⟨z1, z3.trans (h4.oldest h2 r7 r8 hu z2 z4)⟩
    · obtain ⟨u, hu, eu⟩ := h4.ex s old r8
      obtain ⟨t, y1, y2, y3⟩ := h4.fr u hu
      rw [eu] at y1
      have := nodup_inj h2.kd y1 r8
      subst this
      rw [(h2.im t).1 (by rw [r7]; simp)] at y2
      exact absurd (by have := Option.some.inj y2; omega) (z3 u hu)
  · refine .inr (.inr (.inr ⟨hno r1, by rw [h4.len, ← h3]; exact r2, r3, r5, r6, fun k s' ho => ?_, OS.turn h1 h5 h6 h7 q1 q2 h3 h4.next q3 q4⟩))
    rcases ho with ⟨z1, u, hu, z2, z3, z4⟩ | ⟨z1, z2, z3⟩
    · obtain ⟨t, y1, y2, y3⟩ := h4.fr u hu
      have : t ∈ S'.idle := (h2.im t).2 (by rw [y2]; congr 1; omega)
      rw [r7] at this
      cases this
    · exact z1
theorem OS.kd {w0 w : World} {n p i : Nat} {bv : Value} {L Lm : List Us} (h : OS w0 w n p bv L Lm i) : ∀ (a b : Nat) (u v : Us), L[a]? = some u → L[b]? = some v → u.key = v.key → a = b := by
  obtain ⟨S, bm, kv, rv, iv, h1, h2, h3, h4, h5, h6, h7⟩ := h
  exact h4.kd
theorem OS.putAt {w0 w : World} {n p i j : Nat} {bv : Value} {L : List Us} {u : Us} (h : OS w0 w n p bv L L i) (hi : i ≤ 4611686018427387904) (hk : i64ok u.key) (hj : L[j]? = some u) (hb : u.back < u.got) :
    Calls Try.prog 51 #[.pointer (some ⟨p, 0, none⟩), .int .i64 u.key] w fun e w' => e = .returned (.int .i64 0) ∧ OS w0 w' n p bv (L.set j { u with back := u.back + 1, at_ := i }) L (i + 1) := by
  refine (h.put hi hk).mono ?_
  rintro e w' ⟨er, rfl, ⟨_, q, _⟩ | ⟨rfl, j', u', q1, q2, q3, q4⟩⟩
  · exact absurd hb (q u (List.mem_of_getElem? hj) rfl)
  · have := h.kd j' j u' u q1 hj q2
    subst this
    rw [hj] at q1
    have := Option.some.inj q1
    subst this
    exact ⟨rfl, q4⟩
theorem OS.putNo {w0 w : World} {n p i : Nat} {bv : Value} {L : List Us} {key : Int} (h : OS w0 w n p bv L L i) (hi : i ≤ 4611686018427387904) (hk : i64ok key) (hno : ∀ u ∈ L, u.key = key → ¬ u.back < u.got) :
    Calls Try.prog 51 #[.pointer (some ⟨p, 0, none⟩), .int .i64 key] w fun e w' => e = .returned (.int .i64 42) ∧ OS w0 w' n p bv L L (i + 1) := by
  refine (h.put hi hk).mono ?_
  rintro e w' ⟨er, rfl, ⟨rfl, q, q2⟩ | ⟨rfl, j', u', q1, q2, q3, q4⟩⟩
  · exact ⟨rfl, q2⟩
  · exact absurd q3 (hno u' (List.mem_of_getElem? q1) q2)
theorem OS.getHot {w0 w : World} {n p i j : Nat} {bv : Value} {L : List Us} {u : Us} (h : OS w0 w n p bv L L i) (hi : i ≤ 4611686018427387904) (hk : i64ok u.key) (hj : L[j]? = some u) :
    Calls Try.prog 48 #[.pointer (some ⟨p, 0, none⟩), .int .i64 u.key] w fun e w' => ∃ (slot : Nat) (old : Int), e = .returned (.tuple #[.int .i64 (slot : Int), .bool false, .int .i64 old, .bool false, .int .i64 0]) ∧ OS w0 w' n p bv (L.set j { u with got := u.got + 1 }) L (i + 1) := by
  have hu := List.mem_of_getElem? hj
  refine (h.get hi hk).mono ?_
  rintro e w' ⟨slot, fresh, old, gone, er, rfl, ⟨j', u', q1, q2, rfl, rfl, rfl, q3⟩ | ⟨q, _⟩ | ⟨q, _⟩ | ⟨q, _⟩⟩
  · have := h.kd j' j u' u q1 hj q2
    subst this
    rw [hj] at q1
    have := Option.some.inj q1
    subst this
    exact ⟨slot, old, rfl, q3⟩
  · exact absurd rfl (q u hu)
  · exact absurd rfl (q u hu)
  · exact absurd rfl (q u hu)
theorem OS.getNew {w0 w : World} {n p i : Nat} {bv : Value} {L : List Us} {key : Int} (h : OS w0 w n p bv L L i) (hi : i ≤ 4611686018427387904) (hk : i64ok key) (hno : ∀ u ∈ L, u.key ≠ key) (hl : L.length < n) :
    Calls Try.prog 48 #[.pointer (some ⟨p, 0, none⟩), .int .i64 key] w fun e w' => ∃ (slot : Nat) (old : Int), e = .returned (.tuple #[.int .i64 (slot : Int), .bool true, .int .i64 old, .bool false, .int .i64 0]) ∧ OS w0 w' n p bv (L ++ [⟨key, 1, 0, 0⟩]) L (i + 1) := by
  refine (h.get hi hk).mono ?_
  rintro e w' ⟨slot, fresh, old, gone, er, rfl, ⟨j', u', q1, q2, _⟩ | ⟨_, _, rfl, rfl, rfl, q⟩ | ⟨_, q, _⟩ | ⟨_, q, _⟩⟩
  · exact absurd q2 (hno u' (List.mem_of_getElem? q1))
  · exact ⟨slot, old, rfl, q⟩
  · omega
  · omega
theorem OS.getOld {w0 w : World} {n p i : Nat} {bv : Value} {L : List Us} {key k : Int} (h : OS w0 w n p bv L L i) (hi : i ≤ 4611686018427387904) (hk : i64ok key) (hno : ∀ u ∈ L, u.key ≠ key) (hl : ¬ L.length < n) (ho : ORes L k true) :
    Calls Try.prog 48 #[.pointer (some ⟨p, 0, none⟩), .int .i64 key] w fun e w' => ∃ slot : Nat, e = .returned (.tuple #[.int .i64 (slot : Int), .bool true, .int .i64 k, .bool true, .int .i64 0]) ∧ OS w0 w' n p bv (L.filter (fun u => decide (u.key ≠ k)) ++ [⟨key, 1, 0, 0⟩]) L (i + 1) := by
  refine (h.get hi hk).mono ?_
  rintro e w' ⟨slot, fresh, old, gone, er, rfl, ⟨j', u', q1, q2, _⟩ | ⟨_, q, _⟩ | ⟨_, _, rfl, rfl, rfl, q1, q⟩ | ⟨_, _, _, _, _, q1, _⟩⟩
  · exact absurd q2 (hno u' (List.mem_of_getElem? q1))
  · omega
  · obtain ⟨_, rfl⟩ := q1 k true ho
    exact ⟨slot, rfl, q⟩
  · exact absurd (q1 k true ho) (by simp)
theorem OS.getNone {w0 w : World} {n p i : Nat} {bv : Value} {L : List Us} {key k : Int} (h : OS w0 w n p bv L L i) (hi : i ≤ 4611686018427387904) (hk : i64ok key) (hno : ∀ u ∈ L, u.key ≠ key) (hl : ¬ L.length < n) (ho : ORes L k false) :
    Calls Try.prog 48 #[.pointer (some ⟨p, 0, none⟩), .int .i64 key] w fun e w' => ∃ (slot : Nat) (old : Int), e = .returned (.tuple #[.int .i64 (slot : Int), .bool false, .int .i64 old, .bool false, .int .i64 41]) ∧ OS w0 w' n p bv L L (i + 1) := by
  refine (h.get hi hk).mono ?_
  rintro e w' ⟨slot, fresh, old, gone, er, rfl, ⟨j', u', q1, q2, _⟩ | ⟨_, q, _⟩ | ⟨_, _, _, _, _, q1, _⟩ | ⟨_, _, rfl, rfl, rfl, _, q⟩⟩
  · exact absurd q2 (hno u' (List.mem_of_getElem? q1))
  · omega
  · exact absurd (q1 k false ho).1 (by simp)
  · exact ⟨slot, old, rfl, q⟩
theorem OS.putAt' {w0 w : World} {n p i j : Nat} {bv : Value} {L : List Us} {u : Us} {key : Int} (h : OS w0 w n p bv L L i) (hi : i ≤ 4611686018427387904) (hk : i64ok key) (hku : u.key = key) (hj : L[j]? = some u) (hb : u.back < u.got) :
    Calls Try.prog 51 #[.pointer (some ⟨p, 0, none⟩), .int .i64 key] w fun e w' => e = .returned (.int .i64 0) ∧ OS w0 w' n p bv (L.set j { u with back := u.back + 1, at_ := i }) L (i + 1) := by
  subst hku
  exact h.putAt hi hk hj hb
theorem OS.getHot' {w0 w : World} {n p i j : Nat} {bv : Value} {L : List Us} {u : Us} {key : Int} (h : OS w0 w n p bv L L i) (hi : i ≤ 4611686018427387904) (hk : i64ok key) (hku : u.key = key) (hj : L[j]? = some u) :
    Calls Try.prog 48 #[.pointer (some ⟨p, 0, none⟩), .int .i64 key] w fun e w' => ∃ (slot : Nat) (old : Int), e = .returned (.tuple #[.int .i64 (slot : Int), .bool false, .int .i64 old, .bool false, .int .i64 0]) ∧ OS w0 w' n p bv (L.set j { u with got := u.got + 1 }) L (i + 1) := by
  subst hku
  exact h.getHot hi hk hj
theorem OS.keys {w0 w : World} {n p i : Nat} {bv : Value} {L Lm : List Us} (h : OS w0 w n p bv L Lm i) :
    Calls Try.prog 73 #[.pointer (some ⟨p, 0, none⟩)] w fun e w' => ∃ a cap, e = .returned (.slice a L.length cap) ∧ OS w0 w' n p bv L Lm i := by
  have h0 := h
  obtain ⟨S, bm, kv, rv, iv, h1, h2, h3, h4, h5, h6, h7⟩ := h
  refine (Keys_any h1 h2).mono ?_
  rintro e w' ⟨v, rfl, q1, q2, q3⟩
  obtain ⟨a, cap, rfl, -, -⟩ := rowForm q1
  exact ⟨a, cap, by rw [h2.keys_len, ← h4.len], h0.below q2⟩
theorem OS.start {w0 w1 : World} {n p bm : Nat} (h : LRep w1 p bm (.slice none 0 0) (.slice none 0 0) (.slice none 0 0) ⟨n, [], [], [], []⟩) (h1 : 1 ≤ n) (h2 : n ≤ 16) (hb : Below w0.heap.size w0 w1) (hp : w0.heap.size ≤ p) (hm : w0.heap.size ≤ bm) : OS w0 w1 n p (.slice none 0 0) [] [] 0 := by
  refine ⟨_, bm, _, _, _, h, ⟨h1, h2, Nat.zero_le _, rfl, List.nodup_nil, List.nodup_nil, fun s => by simp, fun k hk => by simp at hk, fun r hr => by simp at hr, rfl⟩, rfl, Lk.start n, ⟨rfl, .inl ⟨rfl, rfl⟩⟩, hb, ?_⟩
  rintro b (e | e | e | e | e)
  · omega
  · omega
  · simp [Value.ownBlock] at e
  · simp [Value.ownBlock] at e
  · simp [Value.ownBlock] at e
end Go.Proofs.Ytlkccencilhacaa
namespace Go.Proofs.Ytlkccencilhacaa
open Go.RowKit Go.Sort
set_option linter.unusedVariables false
set_option linter.unusedSimpArgs false
set_option maxRecDepth 20000

set_option maxHeartbeats 1000000 in
theorem took_in {base : Nat} {w : World} {v : Value} {L : List Us} {j : Nat} {u : Us} (h : BkR base w v L) (hl : L.length ≤ 2000) (hj : L[j]? = some u) (hu : ∀ k v', L[k]? = some v' → v'.key = u.key → k = j) (hg : u.got ≤ 1000000000000000) :
    Calls Try.prog 27 #[v, .int .i64 u.key] w fun e w' => e = .returned v ∧ BkR base w' v (L.set j { u with got := u.got + 1 }) ∧ Chg (fun b => v.ownBlock = some b) w w' := by
  have HF := hide (findK_any h hl u.key)
  have HR : Hid (∀ r, FRes L u.key r → r = (j : Int)) := hide fun r hr => by
    rcases hr with ⟨i, v', h1, h2, rfl⟩ | ⟨h1, -⟩
    · rw [hu i v' h1 h2]
    · exact absurd rfl (h1 u (List.mem_of_getElem? hj))
  obtain ⟨g, cap, cs, rfl, hb, hg1, q0, q1, q2, q3⟩ := h.at hj
  have HFIN : Hid (BkR base (w.setCell ⟨g, j * 4 + 1, none⟩ (.int .i64 ((u.got : Int) + 1))) (.slice (some ⟨g, 0, none⟩) L.length cap) (L.set j { u with got := u.got + 1 })) := hide (h.set hj (by omega) (by simp [Us.cells]))
  have HCH : Hid (Chg (fun b => (Value.slice (some ⟨g, 0, none⟩) L.length cap).ownBlock = some b) w (w.setCell ⟨g, j * 4 + 1, none⟩ (.int .i64 ((u.got : Int) + 1)))) := hide ⟨rfl, rfl, rfl, Nat.le_of_eq (World.size_setCell ..).symm, fun b hb hn => Go.heap_setCell_other _ _ _ _ (fun e => hn (by simp [Value.ownBlock, e]))⟩
  have f1 : w.frozen? ⟨g, j * 4 + 1, none⟩ = false := frozen_of_row _ _ _ _ 66 hg1
  have hjl := (List.getElem?_eq_some_iff.1 hj).1
  have hjb : 0 ≤ (j : Int) ∧ (j : Int) < (L.length : Int) := ⟨by omega, by omega⟩
  obtain ⟨hjb1, hjb2⟩ := hjb
  have hnl : ((j : Int) < 0) = False := by simp
  obtain ⟨a', cap', e', h1', h2'⟩ := h.form
  simp only [Value.slice.injEq] at e'
  unfold maxLen at h2'
  obtain ⟨-, -, rfl⟩ := e'
  clear h hj hu hg1
  generalize L.length = n at *
  generalize u.key = key at *
  generalize u.got = gt at *
  go_enter Try.func27, Try.ntmps27
  go_wp2_with (go_at_call 28; refine HF.out.mono ?_; rintro e y ⟨r, rfl, rfl, hr⟩; have hrj := HR.out r hr; subst hrj; clear hr HF HR)
  go_ret
  exact ⟨rfl, HFIN.out, HCH.out⟩
set_option maxHeartbeats 1000000 in
theorem took_new {base : Nat} {w : World} {v : Value} {L : List Us} {key : Int} (h : BkR base w v L) (hl : L.length ≤ 2000) (hbs : base ≤ w.heap.size) (hn : ∀ u ∈ L, u.key ≠ key) :
    Calls Try.prog 27 #[v, .int .i64 key] w fun e w' => ∃ v', e = .returned v' ∧ BkR base w' v' (L ++ [⟨key, 1, 0, 0⟩]) ∧ Chg (fun b => v.ownBlock = some b) w w' := by
  obtain ⟨i0, hi, hz0, hz1, hz2⟩ := info_parts info_use
  have HF := hide (findK_any h hl key)
  have HR : Hid (∀ r, FRes L key r → r = -1) := hide fun r hr => by
    rcases hr with ⟨i, v', h1, h2, rfl⟩ | ⟨-, h1⟩
    · exact absurd h2 (hn v' (List.mem_of_getElem? h1))
    · exact h1
  obtain ⟨a, cap, rfl, h1, h2⟩ := h.form
  unfold maxLen at h2
  have HA := hide (show (w.alloc (.cells #[.int .i64 key, .int .i64 1, .int .i64 0, .int .i64 0] 66)).ownsRow base 66 4 (.slice a L.length cap) L.length (flat L) from h.kept fun g e => (((Below.refl w.heap.size w).alloc (Nat.le_refl _) _).block g (h.lt g e).2))
  have HFN : Hid (∀ x v', x.ownsRow base 66 4 v' (L.length + 1) (flat L ++ [.int .i64 key, .int .i64 1, .int .i64 0, .int .i64 0]) → BkR base x v' (L ++ [⟨key, 1, 0, 0⟩])) := hide fun x v' hx => by
    unfold BkR
    rw [List.length_append, flat_snoc]
    exact hx
  clear h hn
  generalize hN : L.length = N at *
  clear hN
  go_enter Try.func27, Try.ntmps27
  have hbs2 : base ≤ (w.alloc (.cells #[.int .i64 key, .int .i64 1, .int .i64 0, .int .i64 0] 66)).heap.size := by simp; omega
  have HBS := hide hbs2
  clear hbs2
  have HCH : Hid (∀ x, (w.alloc (.cells #[.int .i64 key, .int .i64 1, .int .i64 0, .int .i64 0] 66)).grownBy x (Value.slice a N cap).ownBlock → Chg (fun b => (Value.slice a N cap).ownBlock = some b) w x) := hide fun x hx => by
    obtain ⟨q1, q2, q3, q4, q5⟩ := hx
    refine ⟨q1, q2, q3, ?_, fun b hb hn => ?_⟩
    · simp at q4; omega
    · rw [q5 b (by simp; omega) (fun e => hn e.symm)]
      exact RowKit.Below.heap_alloc _ _ _ hb
  go_wp2_with (first
    | (go_at_call 28; refine HF.out.mono ?_; rintro e y ⟨r, rfl, hyw, hr⟩; have hrj := HR.out r hr; subst hrj; subst hyw; clear hr HF HR)
    | (at_builtin; (refine wpList_append_own_wide _ rfl (.tmp 11) (.tmp 14) 61 rfl base 66 i0 (.agg #[.int .i64 0, .int .i64 0, .int .i64 0, .int .i64 0]) 4 32 Try.underlying61 hi hz0 hz1 hz2 rfl (by decide) _ _ _ rfl HA.out ⟨_, 0, none⟩ 1 1 [.int .i64 key, .int .i64 1, .int .i64 0, .int .i64 0] rfl rfl (cells_new4 _ _ _ _ _ _) (by simp [Value.oneCell']) (by unfold maxLen; omega) (by omega) HBS.out ?_)))
  intro v' x o1 o2 o3
  have HO1 := hide o1
  have HO2 := hide (HCH.out _ o2)
  clear o1 o2 o3
  go_wp2_with fail
  go_ret
  exact ⟨_, rfl, HFN.out _ _ HO1.out, HO2.out⟩
end Go.Proofs.Ytlkccencilhacaa
namespace Go.Proofs.Ytlkccencilhacaa
open Go.RowKit Go.Sort
set_option linter.unusedVariables false
set_option linter.unusedSimpArgs false
set_option maxRecDepth 20000

/-- a log and the law's book, in a run that began at w0; the book in memory is Lm, and Lk says what the log does -/
structure KD (w0 x : World) (lp p bm : Nat) (kv rv iv : Value) (S : LS) (n ext size first written : Nat) (v : Value) (Lm Lk : List Us) (i : Nat) : Prop where
  lg : LgR x lp p bm kv rv iv S ext size first written
  ok : S.Ok i
  sl : S.slots = n
  bk : BkR w0.heap.size x v Lm
  kb : Kb S Lk ext i
  be : Below w0.heap.size w0 x
  lo : ∀ b, GU lp p bm kv rv iv b → w0.heap.size ≤ b
  wr : written ≤ i
def KW (w0 x : World) (lp n ext size first : Nat) (v : Value) (Lm Lk : List Us) (i : Nat) : Prop := ∃ p bm kv rv iv S written, KD w0 x lp p bm kv rv iv S n ext size first written v Lm Lk i
theorem LgR.notBook {w : World} {lp p bm : Nat} {kv rv iv : Value} {S : LS} {ext size first written : Nat} (h : LgR w lp p bm kv rv iv S ext size first written) {base : Nat} {bv : Value} {L : List Us} (hb : BkR base w bv L) : ∀ g, bv.ownBlock = some g → ¬ GU lp p bm kv rv iv g := fun g hg e => by
  rcases e with rfl | e
  · obtain ⟨cs, hcs⟩ := rowCells hb hg
    have h1 := h.row
    rw [hcs] at h1
    simp only [Option.some.injEq, Obj.cells.injEq] at h1
    exact absurd h1.2.1 (by decide)
  · exact h.l.notBook hb g hg e
/-- blocks of operations stay -/
def OpS (x z : World) : Prop := ∀ (g : Nat) (cs : Array Value), x.heap[g]? = some (.cells cs 42 (0, 0)) → z.heap[g]? = some (.cells cs 42 (0, 0))
theorem OpS.trans {x y z : World} (h : OpS x y) (k : OpS y z) : OpS x z := fun g cs e => k g cs (h g cs e)
theorem OpS.ofBelow {x z : World} (h : Below x.heap.size x z) : OpS x z := fun g cs e => (h.block g (Array.getElem?_eq_some_iff.1 e).1).trans e
theorem LgR.notOp {w : World} {lp p bm : Nat} {kv rv iv : Value} {S : LS} {ext size first written : Nat} (h : LgR w lp p bm kv rv iv S ext size first written) {g : Nat} {cs : Array Value} (hc : w.heap[g]? = some (.cells cs 42 (0, 0))) : ¬ GU lp p bm kv rv iv g := by
  have key : ∀ (v : Value) (n : Nat) (xs : List Value), w.ownsRow 0 3 1 v n xs → v.ownBlock ≠ some g := fun v n xs hv e => by
    obtain ⟨ds, hd⟩ := rowCells hv e
    exact neType hc hd (by decide) rfl
  rintro (e | e | e | e | e | e)
  · exact neType hc h.row (by decide) e
  · exact neType hc h.l.row (by decide) e
  · exact h.l.mp.neCells hc e
  · exact key _ _ _ h.l.ko e
  · exact key _ _ _ h.l.ro e
  · exact key _ _ _ h.l.io e
theorem LgR.ops {w z : World} {lp p bm : Nat} {kv rv iv : Value} {S : LS} {ext size first written : Nat} (h : LgR w lp p bm kv rv iv S ext size first written) (hc : Chg (GU lp p bm kv rv iv) w z) : OpS w z := fun g cs e => (hc.keep g (Array.getElem?_eq_some_iff.1 e).1 (h.notOp e)).trans e
section
variable {w0 x y : World} {lp n ext size first : Nat} {v v' : Value} {L Lm Lk Lm' : List Us} {i : Nat}
theorem KW.be (h : KW w0 x lp n ext size first v Lm Lk i) : Below w0.heap.size w0 x := by
  obtain ⟨p, bm, kv, rv, iv, S, written, h⟩ := h
  exact h.be
theorem KW.bk (h : KW w0 x lp n ext size first v Lm Lk i) : BkR w0.heap.size x v Lm := by
  obtain ⟨p, bm, kv, rv, iv, S, written, h⟩ := h
  exact h.bk
theorem KW.len (h : KW w0 x lp n ext size first v Lm Lk i) : Lk.length ≤ ext := by
  obtain ⟨p, bm, kv, rv, iv, S, written, h⟩ := h
  exact h.kb.len
theorem KW.gb (h : KW w0 x lp n ext size first v Lm Lk i) : ∀ u ∈ Lk, u.back ≤ u.got ∧ u.got ≤ i := by
  obtain ⟨p, bm, kv, rv, iv, S, written, h⟩ := h
  exact h.kb.gb
theorem KW.uniq (h : KW w0 x lp n ext size first v Lm Lk i) {a b : Nat} {u t : Us} (ha : Lk[a]? = some u) (hb : Lk[b]? = some t) (e : u.key = t.key) : a = b := by
  obtain ⟨p, bm, kv, rv, iv, S, written, h⟩ := h
  exact h.kb.uniq ha hb e
theorem KW.below (h : KW w0 x lp n ext size first v Lm Lk i) (hb : Below x.heap.size x y) : KW w0 y lp n ext size first v Lm Lk i := by
  obtain ⟨p, bm, kv, rv, iv, S, written, h⟩ := h
  exact ⟨p, bm, kv, rv, iv, S, written, h.lg.below hb, h.ok, h.sl, h.bk.kept fun g e => hb.block g (h.bk.lt g e).2, h.kb, h.be.trans (hb.mono h.be.size), h.lo, h.wr⟩
/-- the book turned -/
theorem KW.book (h : KW w0 x lp n ext size first v Lm Lk i) (hb : BkR w0.heap.size y v' Lm') (hc : Chg (fun b => v.ownBlock = some b) x y) : KW w0 y lp n ext size first v' Lm' Lk i := by
  obtain ⟨p, bm, kv, rv, iv, S, written, h⟩ := h
  refine ⟨p, bm, kv, rv, iv, S, written, h.lg.kept fun b e => hc.keep b (h.lg.lt b e) (fun e2 => h.lg.notBook h.bk b e2 e), h.ok, h.sl, hb, h.kb, h.be.trans (hc.below h.be.size fun b e => ?_), h.lo, h.wr⟩
  exact (h.bk.lt b e).1
theorem KD.turn {p bm : Nat} {kv rv iv kv' rv' iv' : Value} {S S' : LS} {written written' : Nat} {Lk' : List Us} {i' : Nat} (h : KD w0 x lp p bm kv rv iv S n ext size first written v Lm Lk i) (q1 : LgR y lp p bm kv' rv' iv' S' ext size first written') (q2 : S'.Ok i') (q3 : S'.slots = S.slots) (q4 : Kb S' Lk' ext i') (q5 : Chg (GU lp p bm kv rv iv) x y) (q6 : ∀ b, GU lp p bm kv' rv' iv' b → GU lp p bm kv rv iv b ∨ x.heap.size ≤ b) (q7 : written' ≤ i') : KW w0 y lp n ext size first v Lm Lk' i' := by
  have hs := h.be.size
  refine ⟨p, bm, kv', rv', iv', S', written', q1, q2, q3.trans h.sl, h.bk.kept fun g e => q5.keep g (h.bk.lt g e).2 (h.lg.notBook h.bk g e), q4, h.be.trans (q5.below hs h.lo), fun b e => ?_, q7⟩
  rcases q6 b e with e | e
  · exact h.lo b e
  · omega
/-- what Begin does here -/
def BgK (w0 z : World) (lp n ext size first : Nat) (v : Value) (L : List Us) (i : Nat) (x er : Int) : Prop :=
  (¬ (0 ≤ x ∧ x < (ext : Int)) ∧ er = 2 ∧ KW w0 z lp n ext size first v L L (i + 1)) ∨
  ((0 ≤ x ∧ x < (ext : Int)) ∧ (busyN L = n ∧ ∀ u ∈ L, u.key = x → u.got = u.back) ∧ er = 41 ∧ KW w0 z lp n ext size first v L L (i + 1)) ∨
  ((0 ≤ x ∧ x < (ext : Int)) ∧ ¬ (busyN L = n ∧ ∀ u ∈ L, u.key = x → u.got = u.back) ∧ er = 0 ∧ (∀ (j : Nat) u, L[j]? = some u → u.key = x → KW w0 z lp n ext size first v L (L.set j { u with got := u.got + 1 }) (i + 1)) ∧ ((∀ u ∈ L, u.key ≠ x) → KW w0 z lp n ext size first v L (L ++ [⟨x, 1, 0, 0⟩]) (i + 1)))
theorem BgK.no {z : World} {k er : Int} (h : BgK w0 z lp n ext size first v L i k er) (hn : ¬ (0 ≤ k ∧ k < (ext : Int))) : er = 2 ∧ KW w0 z lp n ext size first v L L (i + 1) := by
  rcases h with ⟨-, h⟩ | ⟨h1, -⟩ | ⟨h1, -⟩
  · exact h
  · exact absurd h1 hn
  · exact absurd h1 hn
theorem BgK.full {z : World} {k er : Int} (h : BgK w0 z lp n ext size first v L i k er) (hi : 0 ≤ k ∧ k < (ext : Int)) (hf : busyN L = n ∧ ∀ u ∈ L, u.key = k → u.got = u.back) : er = 41 ∧ KW w0 z lp n ext size first v L L (i + 1) := by
  rcases h with ⟨h1, -⟩ | ⟨-, -, h⟩ | ⟨-, h1, -⟩
  · exact absurd hi h1
  · exact h
  · exact absurd hf h1
theorem BgK.more {z : World} {k er : Int} (h : BgK w0 z lp n ext size first v L i k er) (hi : 0 ≤ k ∧ k < (ext : Int)) (hf : ¬ (busyN L = n ∧ ∀ u ∈ L, u.key = k → u.got = u.back)) : er = 0 ∧ (∀ (j : Nat) u, L[j]? = some u → u.key = k → KW w0 z lp n ext size first v L (L.set j { u with got := u.got + 1 }) (i + 1)) ∧ ((∀ u ∈ L, u.key ≠ k) → KW w0 z lp n ext size first v L (L ++ [⟨k, 1, 0, 0⟩]) (i + 1)) := by
  rcases h with ⟨h1, -⟩ | ⟨-, h1, -⟩ | ⟨-, -, h⟩
  · exact absurd hi h1
  · exact absurd h1 hf
  · exact h
theorem okMore {S : LS} {M : Nat} (hS : S.Ok M) : S.Ok (M + 1) := ⟨hS.s1, hS.s2, hS.kl, hS.rl, hS.kd, hS.id, hS.im, hS.kb, fun r hr => Nat.le_trans (hS.rb r hr) (Nat.le_succ _), hS.me⟩
theorem KW.begin (h : KW w0 x lp n ext size first v L L i) (hi : i ≤ 1000000000000000) (hx4 : ext ≤ 1024) (hsz : size = 128 ∨ size = 256 ∨ size = 512 ∨ size = 1024) (k : Int) :
    Calls Try.prog 18 #[.pointer (some ⟨lp, 0, none⟩), .int .i64 k] x fun e z => ∃ c0 c1 c2 v2 er, e = .returned (.tuple #[.agg #[.int .i64 c0, .int .i64 c1, .int .i64 c2], v2, .int .i64 er]) ∧ BgK w0 z lp n ext size first v L i k er ∧ OpS x z := by
  obtain ⟨p, bm, kv, rv, iv, S, written, h⟩ := h
  have hwr := h.wr
  refine (begin_any h.lg h.ok (by omega) (by omega) hx4 hsz k).mono ?_
  rintro e z ⟨S', written', r, v2, kv', rv', iv', rfl, hr, hrc, hl, ho, hc, hloc⟩
  refine ⟨_, _, _, _, _, rfl, ?_, h.lg.ops hc⟩
  have hfull := h.kb.full h.ok
  rcases hr with ⟨h1, rfl, rfl, rfl⟩ | ⟨h1, slot, old, gone, er, hg, rfl, rfl⟩ | ⟨h1, slot, old, gone, hg, rfl, rfl⟩
  · exact .inl ⟨h1, rfl, h.turn hl ho rfl h.kb.next hc hloc (by omega)⟩
  · rcases hg with ⟨s, g1, g2, g3, -, -, -, rfl⟩ | ⟨g1, g2, g3, g4, g5, -⟩ | ⟨g1, g2, s, t, o, g3, g4, g5, g6, g7, -⟩ | ⟨g1, g2, g3, rfl, -, -, -, -, rfl⟩
    · have hg : GetRes S k S' slot false 0 false 0 := .inl ⟨s, g1, g2, g3, rfl, rfl, rfl, rfl⟩
      obtain ⟨r1, r2⟩ := hg.refs h.ok rfl
      refine .inr (.inr ⟨h1, fun ⟨hb, hall⟩ => ?_, rfl, fun j u hj hu => ?_, fun hn => ?_⟩)
      · have hf := hfull.2.1 (hb.trans h.sl.symm)
        have hsl : s < S.rs.length := by rw [h.ok.rl]; exact (List.getElem?_eq_some_iff.1 g1).1
        have hr0 : RefRes S k S.rs[s] := .inl ⟨s, g1, List.getElem?_eq_getElem hsl⟩
        have hpos : 0 < S.rs[s] := by
          refine Nat.pos_of_ne_zero fun e => ?_
          have : s ∈ S.idle := (h.ok.im s).2 (by rw [List.getElem?_eq_getElem hsl, e])
          rw [hf.2] at this
          simp at this
        obtain ⟨u, hu, e⟩ := h.kb.cv k _ hr0 hpos
        have e1 := hall u hu e
        have e2 := RefRes.uniq h.ok (e ▸ h.kb.rf u hu) hr0
        omega
      · subst hu
        have hu := List.mem_of_getElem? hj
        have hgb := h.kb.gb u hu
        refine h.turn hl ho hg.slots (h.kb.line h.ok ho hj rfl ⟨?_, ?_⟩ r1 ?_) hc hloc (by omega)
        · show u.back ≤ u.got + 1; omega
        · show u.got + 1 ≤ i + 1; omega
        · have := r2 _ (h.kb.rf u hu)
          rwa [show u.got - u.back + 1 = u.got + 1 - u.back by omega] at this
      · exact h.turn hl ho hg.slots (h.kb.more h.ok ho hn h1 r1 r2) hc hloc (by omega)
    · cases g5
    · cases g7
    · refine .inr (.inl ⟨h1, ⟨(hfull.2.2 ⟨g2, g3⟩).trans h.sl, fun u hu e => ?_⟩, rfl, h.turn hl ho rfl h.kb.next hc hloc (by omega)⟩)
      have hgb := h.kb.gb u hu
      have := RefRes.uniq h.ok (e ▸ h.kb.rf u hu) (.inr ⟨g1, rfl⟩)
      omega
  · obtain ⟨r1, r2⟩ := hg.refs h.ok rfl
    refine .inr (.inr ⟨h1, fun ⟨hb, hall⟩ => ?_, rfl, fun j u hj hu => ?_, fun hn => ?_⟩)
    · have hf := hfull.2.1 (hb.trans h.sl.symm)
      rcases hg with ⟨s, g1, g2, g3, g4, -⟩ | ⟨g1, g2, -⟩ | ⟨g1, g2, s, t, o, g3, -⟩ | ⟨g1, g2, g3, g4, g5, g6, -⟩
      · cases g4
      · omega
      · rw [hf.2] at g3; cases g3
      · cases g6
    · subst hu
      have hu := List.mem_of_getElem? hj
      have hgb := h.kb.gb u hu
      refine h.turn hl ho hg.slots (h.kb.line h.ok ho hj rfl ⟨?_, ?_⟩ r1 ?_) hc hloc (by have := h.wr; omega)
      · show u.back ≤ u.got + 1; omega
      · show u.got + 1 ≤ i + 1; omega
      · have := r2 _ (h.kb.rf u hu)
        rwa [show u.got - u.back + 1 = u.got + 1 - u.back by omega] at this
    · exact h.turn hl ho hg.slots (h.kb.more h.ok ho hn h1 r1 r2) hc hloc (by have := h.wr; omega)
theorem KW.end_ (h : KW w0 x lp n ext size first v L L i) (hi : i ≤ 1000000000000000) {k : Int} (hk : i64ok k) :
    Calls Try.prog 20 #[.pointer (some ⟨lp, 0, none⟩), .int .i64 k] x fun e z => ∃ er, e = .returned (.int .i64 er) ∧ OpS x z ∧ ((er ≠ 0 ∧ KW w0 z lp n ext size first v L L (i + 1)) ∨ (er = 0 ∧ ∃ (j : Nat) (u : Us), L[j]? = some u ∧ u.key = k ∧ u.back < u.got ∧ KW w0 z lp n ext size first v L (L.set j { u with back := u.back + 1 }) (i + 1))) := by
  obtain ⟨p, bm, kv, rv, iv, S, written, h⟩ := h
  have hwr := h.wr
  refine (lEnd_any h.lg h.ok (by omega) hk).mono ?_
  rintro e z (⟨h1, rfl, rfl⟩ | ⟨h1, S', er, iv', hp, rfl, hl, ho, hc, hloc⟩)
  · exact ⟨2, rfl, fun g cs e => e, .inl ⟨by decide, p, bm, kv, rv, iv, S, written, h.lg, okMore h.ok, h.sl, h.bk, h.kb.next, h.be, h.lo, by omega⟩⟩
  · refine ⟨er, rfl, h.lg.ops (hc.mono fun b _ e => .inr e), ?_⟩
    have hc' : Chg (GU lp p bm kv rv iv) x z := hc.mono fun b _ e => .inr e
    have hloc' : ∀ b, GU lp p bm kv rv iv' b → GU lp p bm kv rv iv b ∨ x.heap.size ≤ b := by
      rintro b (e | e)
      · exact .inl (.inl e)
      · exact (hloc b e).imp .inr id
    by_cases he : er = 0
    · have hsl : S'.slots = S.slots := by
        rcases hp with ⟨-, rfl, -⟩ | ⟨s, r, -, -, rfl, -⟩ <;> rfl
      obtain ⟨r1, r, r2, r3⟩ := hp.refs h.ok he
      obtain ⟨u, hu, rfl⟩ := h.kb.cv k _ r2 (by omega)
      obtain ⟨j, hj⟩ := List.getElem?_of_mem hu
      have hgb := h.kb.gb u hu
      have e1 := RefRes.uniq h.ok (h.kb.rf u hu) r2
      refine .inr ⟨he, j, u, hj, rfl, by omega, h.turn hl (okMore ho) hsl (h.kb.line h.ok (okMore ho) hj rfl ⟨?_, ?_⟩ r1 ?_) hc' hloc' (by omega)⟩
      · show u.back + 1 ≤ u.got; omega
      · show u.got ≤ i + 1; omega
      · show RefRes S' u.key (u.got - (u.back + 1))
        rwa [show u.got - (u.back + 1) = r by omega]
    · obtain rfl := hp.same he
      exact .inl ⟨he, h.turn hl (okMore ho) rfl h.kb.next hc' hloc' (by omega)⟩
theorem KW.hot (h : KW w0 x lp n ext size first v L L i) :
    Calls Try.prog 46 #[.pointer (some ⟨lp, 0, none⟩)] x fun e z => ∃ hv T, e = .returned hv ∧ IR z hv T ∧ T.length ≤ n ∧ n ≤ 16 ∧ (∀ u ∈ L, u.back < u.got → u.key ∈ T) ∧ KW w0 z lp n ext size first v L L i := by
  have h0 := h
  obtain ⟨p, bm, kv, rv, iv, S, written, h⟩ := h
  refine (hot_any h.lg h.ok).mono ?_
  rintro e z ⟨hv, rfl, hI, hb, -⟩
  have hkl := h.ok.kl
  have hs2 := h.ok.s2
  have hsl := h.sl
  refine ⟨hv, hotL S, rfl, hI, ?_, by omega, fun u hu hlt => ?_, h0.below hb⟩
  · unfold hotL
    rw [List.length_mergeSort, h.ok.keys_len]
    omega
  · have := (h.kb.rf u hu).pos (by omega)
    exact (List.mergeSort_perm _ _).mem_iff.2 (keys_mem h.ok this)
end
end Go.Proofs.Ytlkccencilhacaa
namespace Go.Proofs.Ytlkccencilhacaa
open Go.RowKit Go.Sort
set_option linter.unusedVariables false
set_option linter.unusedSimpArgs false
set_option maxRecDepth 20000

/-- numbers with which New must make a log -/
def okM (a b c : Int) : Prop := (1 ≤ a ∧ a ≤ 16) ∧ (1 ≤ b ∧ b ≤ 1024) ∧ (c = 128 ∨ c = 256 ∨ c = 512 ∨ c = 1024)
instance (a b c : Int) : Decidable (okM a b c) := by unfold okM; infer_instance
set_option maxHeartbeats 4000000 in
theorem good_any (w : World) (a b c d : Int) : Calls Try.prog 14 #[.agg #[.int .i64 a, .int .i64 b, .int .i64 c, .int .u32 d]] w fun e w' => e = .returned (.bool (decide (okM a b c))) ∧ Below w.heap.size w w' := by
  have HB0 := hide ((Below.refl w.heap.size w).alloc (Nat.le_refl _) (.cells #[.int .i64 a, .int .i64 b, .int .i64 c, .int .u32 d] 35))
  obtain ⟨R, hR0⟩ : ∃ R, decide (okM a b c) = R := ⟨_, rfl⟩
  have hyes : ((1 ≤ a ∧ a ≤ 16) ∧ (1 ≤ b ∧ b ≤ 1024) ∧ (c = 128 ∨ c = 256 ∨ c = 512 ∨ c = 1024)) → R = true := fun h => hR0.symm.trans (decide_eq_true h)
  have hno : ¬ ((1 ≤ a ∧ a ≤ 16) ∧ (1 ≤ b ∧ b ≤ 1024) ∧ (c = 128 ∨ c = 256 ∨ c = 512 ∨ c = 1024)) → R = false := fun h => hR0.symm.trans (decide_eq_false h)
  rw [hR0]
  clear hR0
  obtain rfl | ⟨s1, h1⟩ : c = 128 ∨ ((c == 128) = false ∧ c ≠ 128) := by
    by_cases h : c = 128
    · exact .inl h
    · exact .inr ⟨by simpa using h, h⟩
  case' inr =>
    obtain rfl | ⟨s2, h2⟩ : c = 256 ∨ ((c == 256) = false ∧ c ≠ 256) := by
      by_cases h : c = 256
      · exact .inl h
      · exact .inr ⟨by simpa using h, h⟩
    case' inr =>
      obtain rfl | ⟨s3, h3⟩ : c = 512 ∨ ((c == 512) = false ∧ c ≠ 512) := by
        by_cases h : c = 512
        · exact .inl h
        · exact .inr ⟨by simpa using h, h⟩
      case' inr =>
        obtain rfl | ⟨s4, h4⟩ : c = 1024 ∨ ((c == 1024) = false ∧ c ≠ 1024) := by
          by_cases h : c = 1024
          · exact .inl h
          · exact .inr ⟨by simpa using h, h⟩
  all_goals
    by_cases p1 : 1 ≤ a
    case' neg => (have hR : R = false := hno (by omega))
    case' pos =>
      by_cases p2 : a ≤ 16
      case' neg => (have hR : R = false := hno (by omega))
      case' pos =>
        by_cases p3 : 1 ≤ b
        case' neg => (have hR : R = false := hno (by omega))
        case' pos =>
          by_cases p4 : b ≤ 1024
          case' neg => (have hR : R = false := hno (by omega))
          case' pos => (first | (have hR : R = true := hyes (by omega)) | (have hR : R = false := hno (by omega)))
  all_goals
    subst hR
    clear hyes hno
    try clear h1
    try clear h2
    try clear h3
    try clear h4
    go_enter Try.func14, Try.ntmps14
    go_wp2_with fail
    go_ret
    exact ⟨rfl, HB0.out⟩
theorem ptrL' (W : World) (a : Addr) : (binOp .eql 43 (.pointer (some a)) (.pointer none)).run Try.prog W = .ok (.bool false) W := by kernel_rfl
/-- a new log's first extent -/
theorem beg_first {n ext size first : Nat} {x : Int} (h1 : 1 ≤ n) {S' : LS} {written' : Nat} {r : Bg} (hx : 0 ≤ x ∧ x < (ext : Int)) (h : BegRes ⟨n, [], [], [], []⟩ ext size first 0 x S' written' r) : S' = ⟨n, [x], [x], [1], []⟩ ∧ written' = 1 ∧ r.c0 = 0 ∧ r.c1 = x ∧ r.c2 = -1 ∧ r.er = 0 ∧ r.bs = some (recOf S' size first 0 0 x (-1)) := by
  rcases h with ⟨h2, -⟩ | ⟨-, slot, old, gone, er, hg, -⟩ | ⟨-, slot, old, gone, hg, rfl, rfl⟩
  · exact absurd hx h2
  · rcases hg with ⟨s, g1, -⟩ | ⟨g1, g2, g3, g4, g5, -⟩ | ⟨g1, g2, s, t, o, g3, -⟩ | ⟨g1, g2, -⟩
    · simp at g1
    · cases g5
    · cases g3
    · simp at g2; omega
  · rcases hg with ⟨s, g1, -⟩ | ⟨g1, g2, rfl, rfl, -, rfl, rfl, -⟩ | ⟨g1, g2, s, t, o, g3, -⟩ | ⟨g1, g2, -, -, -, g6, -⟩
    · simp at g1
    · exact ⟨rfl, rfl, rfl, rfl, rfl, rfl, rfl⟩
    · cases g3
    · cases g6
theorem gu_new {N lp : Nat} (h : N ≤ lp) : ∀ b, GU lp (N + 1) N (.slice none 0 0) (.slice none 0 0) (.slice none 0 0) b → N ≤ b := by
  rintro b (rfl | rfl | rfl | e | e | e)
  · exact h
  · exact Nat.le_succ _
  · exact Nat.le_refl _
  all_goals simp [Value.ownBlock] at e
theorem hot_one (n : Nat) (x : Int) : hotL ⟨n, [x], [x], [1], []⟩ = [x] := by
  simp [hotL, LS.keys, List.range_succ]
set_option maxHeartbeats 2000000 in
theorem first_any (w : World) (n ext size first : Nat) (h1 : 1 ≤ n) (h2 : n ≤ 16) (h3 : 1 ≤ ext) (h4 : ext ≤ 1024) (h5 : size = 128 ∨ size = 256 ∨ size = 512 ∨ size = 1024) :
    Calls Try.prog 16 #[.agg #[.int .i64 (n : Int), .int .i64 (ext : Int), .int .i64 (size : Int), .int .u32 (first : Int)]] w fun e w' => e = .returned (.bool true) ∧ Below w.heap.size w w' := by
  have q2 := ptrL'
  have HB0 := hide ((Below.refl w.heap.size w).alloc (Nat.le_refl _) (.cells #[.int .i64 (n : Int), .int .i64 (ext : Int), .int .i64 (size : Int), .int .u32 (first : Int)] 35))
  have HN := hide fun x => logNew_any x n ext size first h1 h2 h3 h4 h5
  have HNU := hide fun (x : World) (e : Int) => num_any x e
  have HBX : Hid (∀ x, Below (w.alloc (.cells #[.int .i64 (n : Int), .int .i64 (ext : Int), .int .i64 (size : Int), .int .u32 (first : Int)] 35)).heap.size (w.alloc (.cells #[.int .i64 (n : Int), .int .i64 (ext : Int), .int .i64 (size : Int), .int .u32 (first : Int)] 35)) x → x.cell? ⟨w.heap.size, 1, none⟩ = some (.int .i64 (ext : Int)) ∧ x.cell? ⟨w.heap.size, 2, none⟩ = some (.int .i64 (size : Int))) := hide fun x hx => by
    have hg : x.heap[w.heap.size]? = some (.cells #[.int .i64 (n : Int), .int .i64 (ext : Int), .int .i64 (size : Int), .int .u32 (first : Int)] 35 (0, 0)) := (hx.block _ (by simp)).trans (Go.heap_alloc_new w _)
    exact ⟨cell_of_row _ _ _ _ _ _ hg, cell_of_row _ _ _ _ _ _ hg⟩
  have HBG : Hid (∀ (W y : World) (lp p bm : Nat), LgR y lp p bm (.slice none 0 0) (.slice none 0 0) (.slice none 0 0) ⟨n, [], [], [], []⟩ ext size first 0 → Below W.heap.size W y → (∀ b, GU lp p bm (.slice none 0 0) (.slice none 0 0) (.slice none 0 0) b → W.heap.size ≤ b) → Calls Try.prog 18 #[.pointer (some ⟨lp, 0, none⟩), .int .i64 ((ext : Int) - 1)] y fun e z => ∃ g kv' rv' iv', e = .returned (.tuple #[.agg #[.int .i64 0, .int .i64 ((ext : Int) - 1), .int .i64 (-1)], .slice (some ⟨g, 0, none⟩) size size, .int .i64 0]) ∧ LgR z lp p bm kv' rv' iv' ⟨n, [(ext : Int) - 1], [(ext : Int) - 1], [1], []⟩ ext size first 1 ∧ (⟨n, [(ext : Int) - 1], [(ext : Int) - 1], [1], []⟩ : LS).Ok 1 ∧ Below W.heap.size W z) := hide fun W y lp p bm hl hb hlo => by
    have hok : (⟨n, [], [], [], []⟩ : LS).Ok 0 := ⟨h1, h2, Nat.zero_le _, rfl, List.Pairwise.nil, List.Pairwise.nil, fun s => by simp, fun k hk => by simp at hk, fun r hr => by simp at hr, rfl⟩
    refine (begin_any hl hok (by omega) (by omega) h4 h5 ((ext : Int) - 1)).mono ?_
    rintro e z ⟨S', written', r, v2, kv', rv', iv', rfl, hr, hrc, hl2, ho2, hc2, hloc2⟩
    obtain ⟨rfl, rfl, e0, e1, e2, e3, e4⟩ := beg_first h1 (by omega) hr
    rw [e0, e1, e2, e3]
    rw [e4] at hrc
    obtain ⟨g, rfl, -, -, -⟩ := hrc
    rw [recOf_len (by omega)]
    exact ⟨g, kv', rv', iv', rfl, hl2, ho2, hb.trans (hc2.below hb.size hlo)⟩
  have HHT : Hid (∀ (W z : World) (lp p bm : Nat) kv' rv' iv', LgR z lp p bm kv' rv' iv' ⟨n, [(ext : Int) - 1], [(ext : Int) - 1], [1], []⟩ ext size first 1 → (⟨n, [(ext : Int) - 1], [(ext : Int) - 1], [1], []⟩ : LS).Ok 1 → Below W.heap.size W z → Calls Try.prog 46 #[.pointer (some ⟨lp, 0, none⟩)] z fun e u => ∃ g cap, e = .returned (.slice (some ⟨g, 0, none⟩) 1 cap) ∧ u.cell? ⟨g, 0, none⟩ = some (.int .i64 ((ext : Int) - 1)) ∧ 1 ≤ cap ∧ cap ≤ 9223372036854775807 ∧ Below W.heap.size W u) := hide fun W z lp p bm kv' rv' iv' hl ho hb => by
    refine (hot_any hl ho).mono ?_
    rintro e u ⟨v, rfl, hI, hb2, -⟩
    rw [hot_one] at hI
    obtain ⟨g, cap, rfl, hc⟩ := hI.at (i := 0) (by simp)
    obtain ⟨a', c', e', k1, k2⟩ := rowForm hI
    simp only [Value.slice.injEq] at e'
    unfold maxLen at k2
    obtain ⟨-, -, rfl⟩ := e'
    exact ⟨g, cap, rfl, hc, k1, by omega, hb.trans (hb2.mono hb.size)⟩
  have HFB : Hid (∀ x, Below (w.alloc (.cells #[.int .i64 (n : Int), .int .i64 (ext : Int), .int .i64 (size : Int), .int .u32 (first : Int)] 35)).heap.size (w.alloc (.cells #[.int .i64 (n : Int), .int .i64 (ext : Int), .int .i64 (size : Int), .int .u32 (first : Int)] 35)) x → Below w.heap.size w x) := hide fun x hx => HB0.out.trans (hx.mono HB0.out.size)
  have hwr : IntKind.i64.wrap ((ext : Int) - 1) = (ext : Int) - 1 := by simp [IntKind.wrap, IntKind.bits, IntKind.signed]; omega
  clear h1 h2 h3 h4 h5
  go_enter Try.func16, Try.ntmps16
  go_wp2_with (first
    | (go_at_call 29; refine (HN.out _).mono ?_; rintro e y ⟨lp, hlp, rfl, hl, hb⟩; have HL := hide hl; have HB1 := hide hb; obtain ⟨c1, c2⟩ := HBX.out _ hb; have HGU := hide (gu_new hlp); clear hl hb hlp HN)
    | (go_at_call 18; refine (HBG.out _ _ _ _ _ HL.out HB1.out HGU.out).mono ?_; rintro e z ⟨g, kv', rv', iv', rfl, hl, ho, hb⟩; have HL2 := hide hl; have HO2 := hide ho; have HZ := hide hb; obtain ⟨d1, d2⟩ := HBX.out _ hb; have HZC := hide ((Below.refl z.heap.size z).alloc (Nat.le_refl _) (.cells #[.int .i64 0, .int .i64 ((ext : Int) - 1), .int .i64 (-1)] 48)); have HL3 := hide (hl.below HZC.out); have HRF := hide (Below.refl (z.alloc (.cells #[.int .i64 0, .int .i64 ((ext : Int) - 1), .int .i64 (-1)] 48)).heap.size (z.alloc (.cells #[.int .i64 0, .int .i64 ((ext : Int) - 1), .int .i64 (-1)] 48))); clear hl ho hb HBG)
    | (go_at_call 46; refine (HHT.out _ _ _ _ _ _ _ _ HL3.out HO2.out HRF.out).mono ?_; rintro e u ⟨g2, cap, rfl, hc, k1, k2, hb⟩; have HU := hide ((HZ.out.trans (HZC.out.mono HZ.out.size)).trans (hb.mono (Nat.le_trans HZ.out.size HZC.out.size))); obtain ⟨e1, e2⟩ := HBX.out _ HU.out; have bx : u.heap[z.heap.size]? = some (.cells #[.int .i64 0, .int .i64 ((ext : Int) - 1), .int .i64 (-1)] 48 (0, 0)) := (hb.block _ (by simp)).trans (Go.heap_alloc_new z _); have m0 : u.cell? ⟨z.heap.size, 0, none⟩ = some (.int .i64 0) := cell_of_row _ _ _ _ _ _ bx; have m1 : u.cell? ⟨z.heap.size, 1, none⟩ = some (.int .i64 ((ext : Int) - 1)) := cell_of_row _ _ _ _ _ _ bx; have m2 : u.cell? ⟨z.heap.size, 2, none⟩ = some (.int .i64 (-1)) := cell_of_row _ _ _ _ _ _ bx; clear hb bx HHT)
    | (go_at_call 12; refine (HNU.out _ _).mono ?_; rintro e y2 ⟨rfl, hy⟩; subst hy))
  clear HZ HZC HL3 HRF HL2 HO2 HL HB1 HGU
  go_region_held3 (fun z' => z'.cell? ⟨w.heap.size, 1, none⟩ = some (.int .i64 (ext : Int)) ∧ z'.cell? ⟨w.heap.size, 2, none⟩ = some (.int .i64 (size : Int)) ∧ z'.cell? ⟨z.heap.size, 0, none⟩ = some (.int .i64 0) ∧ z'.cell? ⟨z.heap.size, 1, none⟩ = some (.int .i64 ((ext : Int) - 1)) ∧ z'.cell? ⟨z.heap.size, 2, none⟩ = some (.int .i64 (-1)) ∧ z'.cell? ⟨g2, 0, none⟩ = some (.int .i64 ((ext : Int) - 1))) (first | exact ⟨e1, e2, m0, m1, m2, hc⟩ | assumption)
    ((go_at_call 12; refine (HNU.out _ _).mono ?_; rintro e y2 ⟨rfl, hy⟩; subst hy))
  go_wp2_with fail
  go_ret
  exact ⟨by simp, HFB.out _ (HU.out.trans (Below.refl _ _).drew)⟩
end Go.Proofs.Ytlkccencilhacaa
namespace Go.Proofs.Ytlkccencilhacaa
open Go.RowKit Go.Sort
open Num
set_option linter.unusedVariables false
set_option linter.unusedSimpArgs false
set_option maxRecDepth 20000

/-- bytes in memory of their own -/
structure UB (x : World) (lo : Nat) (v : Value) (l : List Nat) : Prop where
  row : x.ownsRow lo 5 1 v l.length (l.map byV)
  lt : ∀ b ∈ l, b < 256
theorem UB.sl {x : World} {lo : Nat} {v : Value} {l : List Nat} (h : UB x lo v l) : BSl x v l := by
  rcases h.row.2 with ⟨rfl, h0⟩ | ⟨g, cap, cur, rfl, hg, hh, h1, h2, h3, h4⟩
  · have : l = [] := List.eq_nil_of_length_eq_zero h0
    subst this
    exact ⟨none, 0, rfl, Nat.le_refl _, Nat.zero_le _, fun _ => rfl, h.lt, fun h => absurd h (by simp)⟩
  · refine ⟨_, cap, rfl, h1, h2, fun e => (by cases e), h.lt, fun _ => ⟨g, 0, rfl, fun i hi => ?_⟩⟩
    rw [Nat.zero_add, h.row.cellAt i (by omega)]
    simp [byV, hi, List.getD]
theorem UB.keep {x y : World} {lo : Nat} {v : Value} {l : List Nat} (h : UB x lo v l) (hk : ∀ g, v.ownBlock = some g → y.heap[g]? = x.heap[g]?) : UB y lo v l := ⟨rowKept h.row hk, h.lt⟩
theorem UB.block {x : World} {lo : Nat} {v : Value} {l : List Nat} (h : UB x lo v l) {g : Nat} (hg : v.ownBlock = some g) : ∃ cs, x.heap[g]? = some (.cells cs 5 (0, 0)) := rowCells h.row hg
theorem UB.below {x y : World} {lo : Nat} {v : Value} {l : List Nat} (h : UB x lo v l) (hb : Below x.heap.size x y) : UB y lo v l := h.keep fun g hg => by
  obtain ⟨cs, hc⟩ := h.block hg
  exact hb.block _ (Array.getElem?_eq_some_iff.1 hc).1
theorem UB.mono {x : World} {lo lo' : Nat} {v : Value} {l : List Nat} (h : UB x lo v l) (hl : lo' ≤ lo) : UB x lo' v l := by
  refine ⟨⟨h.row.1, ?_⟩, h.lt⟩
  rcases h.row.2 with h0 | ⟨g, cap, cur, e, hg, r⟩
  · exact .inl h0
  · exact .inr ⟨g, cap, cur, e, by omega, r⟩
theorem byV_one (l : List Nat) : ∀ u ∈ l.map byV, u.oneCell' = true := by
  intro u hu
  obtain ⟨_, _, rfl⟩ := List.mem_map.1 hu
  rfl
theorem BSl.newsV {w : World} {ad : Addr} {n cap : Nat} {l : List Nat} (h : BSl w (.slice (some ad) n cap) l) : ∀ j u, (l.map byV)[j]? = some u → w.cell? (ad.add j) = some u := by
  intro j u hu
  have hj : j < l.length := by simpa using (List.getElem?_eq_some_iff.1 hu).1
  obtain ⟨a, cap, e, h1, h2, h3, h4, h5⟩ := h
  simp only [Value.slice.injEq] at e
  obtain ⟨rfl, rfl, rfl⟩ := e
  obtain ⟨b, off, e, hc⟩ := h5 (by omega)
  simp only [Option.some.injEq] at e
  subst e
  rw [Addr.add_lit, hc j hj, ← hu]
  simp [byV, hj, List.getD]
set_option maxHeartbeats 1000000 in
theorem copied_any (v : Value) (l : List Nat) (w : World) (h : BSl w v l) (hr : l.length ≤ 65536) :
    Calls Try.prog 8 #[v] w fun e w' => ∃ v', e = .returned v' ∧ UB w' w.heap.size v' l ∧ Below w.heap.size w w' := by
  obtain ⟨i0, hi, hz0, hz1, hz2⟩ := info_parts info_u8
  have hmade : (w.alloc (.cells #[] 5)).ownsRow w.heap.size 5 1 (.slice (some ⟨w.heap.size, 0, none⟩) 0 0) 0 [] := World.ownsRow_made w #[] 0 (Nat.le_refl _) (by unfold maxLen; omega) rfl
  have h' := h
  obtain ⟨a, cap, rfl, hl, hm, hn, hb, hcell⟩ := h'
  cases a with
  | none =>
    have hc : cap = 0 := hn rfl
    have hl0 : l = [] := List.eq_nil_of_length_eq_zero (by omega)
    subst hl0
    subst hc
    clear hcell hn
    go_enter Try.func8, Try.ntmps8
    go_wp2
    go_ret
    exact ⟨_, rfl, ⟨hmade, by simp⟩, (Below.refl _ _).alloc (Nat.le_refl _) _⟩
  | some ad =>
    have hnews := (h.below ((Below.refl _ _).alloc (Nat.le_refl _) (.cells #[] 5))).newsV
    have hone := byV_one l
    have HB : Hid (∀ b ∈ l, b < 256) := hb
    clear hn hcell h hb
    have hnl : (l.map byV).length = l.length * 1 := by simp
    go_enter Try.func8, Try.ntmps8
    go_wp2_with (at_builtin; refine wpList_append_own _ rfl (.tmp 3) (.tmp 4) 23 rfl w.heap.size 5 i0 (.int .u8 0) 1 1 Try.underlying23 hi hz0 hz1 hz2 rfl (by decide) _ _ _ rfl hmade ad l.length cap (l.map byV) rfl hnl hnews hone (by omega) (by omega) (by simp) ?_)
    intro v' w1 hown hg _
    clear hnews hone hnl hmade
    go_wp2
    go_ret
    refine ⟨_, rfl, ⟨by simpa using hown, HB.out⟩, ((Below.refl _ _).alloc (Nat.le_refl _) _).grown hg (by simp) (by simp [Value.ownBlock])⟩
end Go.Proofs.Ytlkccencilhacaa
namespace Go.Proofs.Ytlkccencilhacaa
open Go.RowKit Go.Sort
open Num
set_option linter.unusedVariables false
set_option linter.unusedSimpArgs false
set_option maxRecDepth 20000

/-- a ring in memory: a list of lists, each in memory of its own, all from lo on -/
structure RgV (x : World) (lo : Nat) (rv : Value) (bs : List (List Nat)) (vs : List Value) : Prop where
  row : x.ownsRow 0 23 1 rv vs.length vs
  own : ∀ b, rv.ownBlock = some b → lo ≤ b
  len : vs.length = bs.length
  ub : ∀ k, k < bs.length → UB x lo (vs.getD k undef) (bs.getD k [])
theorem RgV.keep {x y : World} {lo : Nat} {rv : Value} {bs : List (List Nat)} {vs : List Value} (h : RgV x lo rv bs vs) (h1 : ∀ g, rv.ownBlock = some g → y.heap[g]? = x.heap[g]?) (h2 : ∀ (g : Nat) (cs : Array Value), x.heap[g]? = some (.cells cs 5 (0, 0)) → y.heap[g]? = x.heap[g]?) : RgV y lo rv bs vs :=
  ⟨rowKept h.row h1, h.own, h.len, fun k hk => (h.ub k hk).keep fun g hg => by obtain ⟨cs, hc⟩ := (h.ub k hk).block hg; exact h2 g cs hc⟩
theorem RgV.below {x y : World} {lo : Nat} {rv : Value} {bs : List (List Nat)} {vs : List Value} (h : RgV x lo rv bs vs) (hb : Below x.heap.size x y) : RgV y lo rv bs vs :=
  h.keep (fun g hg => by obtain ⟨cs, hc⟩ := rowCells h.row hg; exact hb.block _ (Array.getElem?_eq_some_iff.1 hc).1) fun g cs hc => hb.block _ (Array.getElem?_eq_some_iff.1 hc).1
theorem RgV.push {x w6 : World} {lo : Nat} {ov v' y : Value} {bs : List (List Nat)} {vs : List Value} {l : List Nat} {o : Obj} (h : RgV x lo ov bs vs) (hy : UB x lo y l) (hlo : lo ≤ x.heap.size) (ho : w6.ownsRow 0 23 1 v' (vs.length + 1) (vs ++ [y])) (hu : Upon (x.alloc o) w6 ov v') : RgV w6 lo v' (bs ++ [l]) (vs ++ [y]) := by
  have hb0 := (Below.refl x.heap.size x).alloc (Nat.le_refl _) o
  have h2 : ∀ (g : Nat) (cs : Array Value), x.heap[g]? = some (.cells cs 5 (0, 0)) → w6.heap[g]? = x.heap[g]? := fun g cs hc => by
    have hlt := (Array.getElem?_eq_some_iff.1 hc).1
    rw [hu.block g (by simp; omega) (fun e => ?_)]
    · exact hb0.block g hlt
    · obtain ⟨ds, hd⟩ := rowCells h.row e
      exact neType hc hd (by decide) rfl
  refine ⟨by rw [List.length_append]; exact ho, fun b e => ?_, by simp [h.len], fun k hk => ?_⟩
  · rcases hu.loc b e with h1 | h1
    · exact h.own b h1
    · rw [h1]; simp; omega
  · by_cases e : k < bs.length
    · have q := (h.ub k e).keep (y := w6) fun g hg => by obtain ⟨cs, hc⟩ := (h.ub k e).block hg; exact h2 g cs hc
      have e1 : (vs ++ [y]).getD k undef = vs.getD k undef := by simp only [List.getD]; rw [List.getElem?_append_left (by rw [h.len]; exact e)]
      have e2 : (bs ++ [l]).getD k [] = bs.getD k [] := by simp only [List.getD]; rw [List.getElem?_append_left e]
      rw [e1, e2]; exact q
    · have hk0 : k = bs.length := by simp at hk; omega
      have e1 : (vs ++ [y]).getD k undef = y := by simp only [List.getD]; rw [List.getElem?_append_right (by rw [h.len]; omega), show k - vs.length = 0 by rw [h.len]; omega]; rfl
      have e2 : (bs ++ [l]).getD k [] = l := by simp only [List.getD]; rw [List.getElem?_append_right (by omega), show k - bs.length = 0 by omega]; rfl
      rw [e1, e2]
      exact hy.keep fun g hg => by obtain ⟨cs, hc⟩ := hy.block hg; exact h2 g cs hc
theorem RgV.sl {x : World} {lo : Nat} {rv : Value} {bs : List (List Nat)} {vs : List Value} (h : RgV x lo rv bs vs) (hn : 1 ≤ bs.length) : RSl x rv bs := by
  rcases h.row.2 with ⟨rfl, h0⟩ | ⟨g, cap, cur, rfl, hg, hh, h1, h2, h3, h4⟩
  · have := h.len; omega
  · refine ⟨g, 0, cap, by rw [h.len], by rw [← h.len]; exact h1, h2, fun i hi => ⟨vs.getD i undef, ?_, (h.ub i hi).sl⟩⟩
    rw [Nat.zero_add, h.row.cellAt i (by rw [h.len]; omega)]
    rw [List.getD_eq_getElem?_getD, List.getElem?_eq_getElem (by rw [h.len]; exact hi)]; rfl
theorem new1 (w : World) (v : Value) (t : TypeId) : ∀ j u, [v][j]? = some u → (w.alloc (.cells #[v] t)).cell? ((⟨w.heap.size, 0, none⟩ : Addr).add j) = some u := fun j u hj => by
  have hj0 : j = 0 := by have := (List.getElem?_eq_some_iff.1 hj).1; simp at this; omega
  subst hj0
  rw [Addr.add_lit, Nat.zero_add, cell_of_row _ _ _ _ _ _ (Go.heap_alloc_new w (.cells #[v] t))]
  exact hj
theorem RgV.pushB {w x w6 : World} {ov v' : Value} {bs : List (List Nat)} {vs : List Value} {o : Obj} (h : RgV x w.heap.size ov bs vs) (hb : Below w.heap.size w x) (hu : Upon (x.alloc o) w6 ov v') : Below w.heap.size w w6 := by
  obtain ⟨e1, e2, e3⟩ := hu.same
  have hb0 := hb.alloc hb.size o
  refine ⟨e1.trans hb0.os, e2.trans hb0.tape, e3.trans hb0.output, Nat.le_trans hb0.size hu.size, fun b hb' => ?_⟩
  rw [hu.block b (by have := hb.size; simp; omega) (fun e => by have := h.own b e; omega)]
  exact hb0.block b hb'
theorem info_bys : (Try.prog.info? 23).map (fun i => (i.zero, i.size, i.bytes)) = some (some (.slice none 0 0), 1, 24) := by kernel_rfl
theorem UB.form {x : World} {lo : Nat} {v : Value} {l : List Nat} (h : UB x lo v l) : ∃ a cap, v = .slice a l.length cap := by
  obtain ⟨a, cap, e, -⟩ := rowForm h.row; exact ⟨a, cap, e⟩
set_option maxHeartbeats 2000000 in
theorem given_any {w : World} {px lo : Nat} {rv : Value} {bs : List (List Nat)} {vs : List Value} (hp : ∃ cs, w.heap[px]? = some (.cells cs 45 (0, 0)) ∧ cs[5]? = some rv) (h : RgV w lo rv bs vs) (hn1 : 1 ≤ bs.length) (hn4 : bs.length ≤ 4) (hl : ∀ k, (bs.getD k []).length ≤ 1024) :
    Calls Try.prog 21 #[.pointer (some ⟨px, 0, none⟩)] w fun e w' => ∃ v' vs', e = .returned v' ∧ RgV w' w.heap.size v' bs vs' ∧ Below w.heap.size w w' := by
  obtain ⟨cs, hp1, hp2⟩ := hp
  obtain ⟨i0, hi, hz0, hz1, hz2⟩ := info_parts info_bys
  obtain ⟨rg, rcap, rfl, hrc⟩ : ∃ rg rcap, rv = .slice (some ⟨rg, 0, none⟩) bs.length rcap ∧ bs.length ≤ rcap := by
    rcases h.row.2 with ⟨e, e2⟩ | ⟨g', cap', cur, e, _, _, h1, _⟩
    · have := h.len; omega
    · rw [h.len] at e h1; exact ⟨g', cap', e, h1⟩
  have hpl := (Array.getElem?_eq_some_iff.1 hp1).1
  have HPX : Hid (∀ x, Below w.heap.size w x → x.cell? ⟨px, 5, none⟩ = some (.slice (some ⟨rg, 0, none⟩) bs.length rcap)) := hide fun x hx => by rw [cell_of_row _ _ _ _ _ _ ((hx.block _ hpl).trans hp1)]; exact hp2
  have HUB : Hid (∀ x, Below w.heap.size w x → ∀ i, i < bs.length → ∃ a c, x.cell? ⟨rg, i, none⟩ = some (.slice a (bs.getD i []).length c) ∧ BSl x (.slice a (bs.getD i []).length c) (bs.getD i [])) := hide fun x hx i hi => by
    have h' := h.below hx
    have hub := h'.ub i hi
    obtain ⟨ya, ycap, hye⟩ := hub.form
    refine ⟨ya, ycap, ?_, by rw [← hye]; exact hub.sl⟩
    have hr := h'.row
    rw [h.len] at hr
    rw [← hye, hr.cellAt i (by omega), List.getD_eq_getElem?_getD, List.getElem?_eq_getElem (by rw [h.len]; exact hi)]; rfl
  have HLL := hide hl
  have HW0 : Hid (RgV w w.heap.size (.slice none 0 0) (bs.take 0) []) := hide ⟨⟨rfl, .inl ⟨rfl, rfl⟩⟩, fun b e => by simp [Value.ownBlock] at e, by simp, fun k hk => by simp at hk⟩
  have HTK : Hid (∀ i, i < bs.length → bs.take (i + 1) = bs.take i ++ [bs.getD i []]) := hide fun i hi => by
    rw [List.take_succ_eq_append_getElem hi, List.getD_eq_getElem?_getD, List.getElem?_eq_getElem hi]; rfl
  have HTL : Hid (∀ i, i ≤ bs.length → (bs.take i).length = i) := hide fun i hi => by rw [List.length_take]; omega
  have HTA : Hid (bs.take bs.length = bs) := hide (List.take_length)
  clear hp1 hp2 h hl hpl
  generalize hn : bs.length = n at *
  clear hn
  go_enter Try.func21, Try.ntmps21
  go_wp2_with fail
  go_loopw [3, 4] (fun ov x wr => ∃ i : Nat, ∃ us, i ≤ n ∧ x = .int .i64 (i : Int) ∧ RgV wr w.heap.size ov (bs.take i) us ∧ Below w.heap.size w wr) (fun _ x _ => n - (intOf x).toNat)
  case atStart => exact ⟨0, [], Nat.zero_le _, rfl, HW0.out, Below.refl _ _⟩
  case round =>
    clear HW0
    obtain ⟨i, us, hin, rfl, hrv, hb⟩ := hrel
    have c5 := HPX.out _ hb
    have HRV := hide hrv
    have HB := hide hb
    have husl : us.length = i := by rw [hrv.len, HTL.out i hin]
    obtain ⟨oa, ocap, rfl, -, -⟩ := rowForm hrv.row
    clear hrv hb
    by_cases hlt : i < n
    · have hil : (i : Int) < (n : Int) := by omega
      obtain ⟨ya, ycap, ck, hbs⟩ := HUB.out _ HB.out i hlt
      have HCP := hide (copied_any _ _ wr hbs (by have := HLL.out i; omega))
      have HT1 := hide (HTK.out i hlt)
      clear hbs
      generalize (bs.getD i []).length = LL at *
      generalize bs.getD i [] = bl at *
      have HUS := hide husl
      rw [husl] at HRV ⊢
      clear husl
      have HOW : Hid (∀ (x : World) (o : Obj), RgV x w.heap.size (.slice oa i ocap) (bs.take i) us → (x.alloc o).ownsRow 0 23 1 (.slice oa i ocap) i us) := hide fun x o hx => by have := (hx.below ((Below.refl _ _).alloc (Nat.le_refl _) o)).row; rw [HUS.out] at this; exact this
      have HOB : Hid (∀ (x : World) (v6 : Value) (y : Value), x.ownsRow 0 23 1 v6 (i + 1) (us ++ [y]) → x.ownsRow 0 23 1 v6 (us.length + 1) (us ++ [y])) := hide fun x v6 y h => by rw [HUS.out]; exact h
      go_wp2_with (first
        | (go_at_call 8; refine HCP.out.mono ?_; rintro e w1 ⟨y, rfl, hy, hby⟩; obtain ⟨y1, y2, rfl⟩ := hy.form; have HY := hide (hy.mono HB.out.size); have HR1 := hide (HRV.out.below hby); have HB1 := hide (HB.out.trans (hby.mono HB.out.size)); clear hy hby HCP)
        | (at_builtin; refine wpList_append1 _ rfl (.tmp 14) (.tmp 23) 22 rfl 23 i0 (.slice none 0 0) 24 Try.underlying22 hi hz0 hz1 hz2 rfl (.slice oa i ocap) i us rfl (HOW.out _ _ HR1.out) ⟨w1.heap.size, 0, none⟩ 1 (.slice y1 bl.length y2) rfl (new1 w1 (.slice y1 bl.length y2) 23) rfl (by unfold maxLen; omega) (by omega) ?_; intro v6 w6 ho6 hu6; have HN6 := hide (HR1.out.push HY.out HB1.out.size (HOB.out _ _ _ ho6) hu6); have HB6 := hide (HR1.out.pushB HB1.out hu6); clear ho6 hu6))
      go_roundw
      case rel => exact ⟨i + 1, us ++ [.slice y1 bl.length y2], by omega, by go_num, by rw [HT1.out]; exact HN6.out, HB6.out⟩
      case measure => simp [intOf]; omega
    · have ei : i = n := by omega
      have HF : Hid (RgV wr w.heap.size (.slice oa us.length ocap) bs us) := hide (by have := HRV.out; rwa [ei, HTA.out] at this)
      clear HRV
      go_wp2_with fail
      go_ret
      exact ⟨_, us, rfl, HF.out, HB.out⟩
end Go.Proofs.Ytlkccencilhacaa
namespace Go.Proofs.Ytlkccencilhacaa
open Go.RowKit Go.Sort
open Num
set_option linter.unusedVariables false
set_option linter.unusedSimpArgs false
set_option maxRecDepth 20000

theorem step_append1 {P : Program} {ops : Array Oper} {o : Oper} {a : Act} {w : World} {K : Act → World → Prop} {Q : Exit → Act → World → Prop} {E : Prop} (hgd : o.guard = none) (s x : Operand) (t : TypeId)
    (ho : o.op = .call { callee := .builtin .append, args := #[s, x], argTypes := #[t, t] })
    (e : TypeId) (i : TypeInfo) (z : Value) (bytes : Nat) (ht : P.underlying t = some (.slice e)) (hi : P.info? e = some i) (hz : i.zero = some z) (hsize : i.size = 1) (hby : i.bytes = bytes) (hzs : z.cells.size = 1)
    (v : Value) (n : Nat) (xs : List Value) (hs : a.eval s = v) (hown : w.ownsRow 0 e 1 v n xs) (ad : Addr) (c : Nat) (y : Value) (hx : a.eval x = .slice (some ad) 1 c) (hnews : ∀ j u, [y][j]? = some u → w.cell? (ad.add j) = some u) (h1 : y.oneCell' = true) (h63 : n + 1 ≤ maxLen) (hbytes : ((n + 1) + (n + 1) / 4 + 192) * bytes ≤ 281474976710656)
    (h : ∀ v' w', w'.ownsRow 0 e 1 v' (n + 1) (xs ++ [y]) → Upon w w' v v' → K (a.put o.dst v') w') :
    if Region.wanted o (yielded ops a.tmps) = true then Oper.wp P o a w K Q else E := by
  have hw : Region.wanted o (yielded ops a.tmps) = true := by simp [Region.wanted, hgd]
  rw [if_pos hw]
  obtain ⟨v', w', hr, h2, h3⟩ := run_append1 (P := P) w t o.type e i z bytes ht hi hz hsize hby hzs v n xs hown ad c y hnews h1 h63 hbytes
  unfold Oper.wp execOp
  simp only [ho, resolve, invoke, builtin, Sem.run_bind, Sem.run_pure, Result.andThen_ok, List.map_toArray, List.map_cons, List.map_nil, hs, hx, hr]
  exact h v' w' h2 h3
/-- a rig: its log, its ring, in a run that began at w0 -/
structure RgD (w0 x : World) (px lp p bm : Nat) (kv rv iv : Value) (S : LS) (n ext size first0 first written : Nat) (gv : Value) (vs : List Value) (bs : List (List Nat)) (wrote : Bool) (i : Nat) : Prop where
  row : x.heap[px]? = some (.cells #[.pointer (some ⟨lp, 0, none⟩), .int .i64 (n : Int), .int .i64 (ext : Int), .int .i64 (size : Int), .int .u32 (first0 : Int), gv, .bool wrote] 45 (0, 0))
  lg : LgR x lp p bm kv rv iv S ext size first written
  ok : S.Ok i
  sl : S.slots = n
  rg : RgV x w0.heap.size gv bs vs
  be : Below w0.heap.size w0 x
  lo : ∀ b, GU lp p bm kv rv iv b → w0.heap.size ≤ b
  po : w0.heap.size ≤ px
  wr : written ≤ i
/-- blocks of another kind are none of the log's -/
theorem LgR.notTy {w : World} {lp p bm : Nat} {kv rv iv : Value} {S : LS} {ext size first written : Nat} (h : LgR w lp p bm kv rv iv S ext size first written) {g : Nat} {cs : Array Value} {t : TypeId} (hc : w.heap[g]? = some (.cells cs t (0, 0))) (h1 : t ≠ 106) (h2 : t ≠ 114) (h3 : t ≠ 3) : ¬ GU lp p bm kv rv iv g := by
  have key : ∀ (v : Value) (n : Nat) (xs : List Value), w.ownsRow 0 3 1 v n xs → v.ownBlock ≠ some g := fun v n xs hv e => by
    obtain ⟨ds, hd⟩ := rowCells hv e
    exact neType hc hd h3 rfl
  rintro (e | e | e | e | e | e)
  · exact neType hc h.row h1 e
  · exact neType hc h.l.row h2 e
  · exact h.l.mp.neCells hc e
  · exact key _ _ _ h.l.ko e
  · exact key _ _ _ h.l.ro e
  · exact key _ _ _ h.l.io e
/-- while rig lays its blank blocks -/
structure RiW (w wr : World) (px lp p bm n ext size first : Nat) (gv : Value) (vs : List Value) (i : Nat) : Prop where
  d : RgD w wr px lp p bm (.slice none 0 0) (.slice none 0 0) (.slice none 0 0) ⟨n, [], [], [], []⟩ n ext size first first 0 gv vs (List.replicate i (List.replicate size 0)) false 0
  box : wr.heap[w.heap.size]? = some (.cells #[.int .i64 (n : Int), .int .i64 (ext : Int), .int .i64 (size : Int), .int .u32 (first : Int)] 35 (0, 0))
theorem UB.zeros (x : World) (lo size : Nat) (hs : size ≤ 65536) (hlo : lo ≤ x.heap.size) : UB (x.alloc (.cells (byts (List.replicate size 0)) 5)) lo (.slice (some ⟨x.heap.size, 0, none⟩) size size) (List.replicate size 0) := by
  refine ⟨⟨by simp, .inr ⟨x.heap.size, size, byts (List.replicate size 0), by simp, hlo, Go.heap_alloc_new _ _, by simp, by unfold maxLen; omega, by simp [byts], by simp [byts]⟩⟩, fun b hb => by have := List.eq_of_mem_replicate hb; omega⟩
/-- one blank block more -/
theorem RiW.more {w wr w6 : World} {px lp p bm n ext size first i : Nat} {gv v6 : Value} {vs : List Value} (h : RiW w wr px lp p bm n ext size first gv vs i) (hs : size ≤ 65536) (ho : w6.ownsRow 0 23 1 v6 (i + 1) (vs ++ [.slice (some ⟨wr.heap.size, 0, none⟩) size size])) (hu : Upon ((wr.alloc (.cells (byts (List.replicate size 0)) 5)).drew.alloc (.cells #[.slice (some ⟨wr.heap.size, 0, none⟩) size size] 23)) w6 gv v6) :
    (w6.cell? ⟨px, 5, none⟩ = some gv ∧ w6.frozen? ⟨px, 5, none⟩ = false) ∧ RiW w (w6.setCell ⟨px, 5, none⟩ v6) px lp p bm n ext size first v6 (vs ++ [.slice (some ⟨wr.heap.size, 0, none⟩) size size]) (i + 1) := by
  have hb0 : Below wr.heap.size wr (wr.alloc (.cells (byts (List.replicate size 0)) 5)).drew := ((Below.refl _ _).alloc (Nat.le_refl _) _).drew
  have hb1 : Below wr.heap.size wr ((wr.alloc (.cells (byts (List.replicate size 0)) 5)).drew.alloc (.cells #[.slice (some ⟨wr.heap.size, 0, none⟩) size size] 23)) := hb0.alloc hb0.size _
  have keep : ∀ (g : Nat), g < wr.heap.size → gv.ownBlock ≠ some g → w6.heap[g]? = wr.heap[g]? := fun g hg hne => by
    rw [hu.block g (by have := hb1.size; omega) hne]
    exact hb1.block g hg
  have hne : ∀ (g : Nat) (cs : Array Value) (t : TypeId), wr.heap[g]? = some (.cells cs t (0, 0)) → t ≠ 23 → w6.heap[g]? = some (.cells cs t (0, 0)) := fun g cs t hc ht => by
    rw [keep g (Array.getElem?_eq_some_iff.1 hc).1 (fun e => ?_)]
    · exact hc
    · obtain ⟨ds, hd⟩ := rowCells h.d.rg.row e
      exact neType hc hd ht rfl
  have hpx := hne px _ _ h.d.row (by decide)
  have hvl : vs.length = i := by rw [h.d.rg.len]; simp
  have hpush := (h.d.rg.below hb0).push (l := List.replicate size 0) ((UB.zeros wr w.heap.size size hs h.d.be.size).keep fun g _ => rfl) (Nat.le_trans h.d.be.size hb0.size) (by rw [hvl]; exact ho) hu
  rw [← List.replicate_succ'] at hpush
  have hbe : Below w.heap.size w w6 := by
    obtain ⟨e1, e2, e3⟩ := hu.same
    have hb2 := h.d.be.trans (hb1.mono h.d.be.size)
    refine ⟨e1.trans hb2.os, e2.trans hb2.tape, e3.trans hb2.output, Nat.le_trans hb2.size hu.size, fun b hb => ?_⟩
    rw [keep b (by have := h.d.be.size; omega) (fun e => by have := h.d.rg.own b e; omega)]
    exact h.d.be.block b hb
  have hset : ∀ (g : Nat), g ≠ px → (w6.setCell ⟨px, 5, none⟩ v6).heap[g]? = w6.heap[g]? := fun g hg => Go.heap_setCell_other _ _ _ _ hg
  refine ⟨⟨cell_of_row _ _ _ _ _ _ hpx, frozen_of_row _ _ _ _ 45 hpx⟩, ⟨⟨?_, ?_, h.d.ok, h.d.sl, ?_, ?_, h.d.lo, h.d.po, h.d.wr⟩, ?_⟩⟩
  · rw [Go.heap_setCell_same _ _ _ _ _ _ hpx]; rfl
  · refine h.d.lg.kept fun b e => ?_
    have hbl := h.d.lg.lt b e
    have hbp : b ≠ px := fun e2 => h.d.lg.notTy h.d.row (by decide) (by decide) (by decide) (e2 ▸ e)
    rw [hset b hbp]
    refine keep b hbl fun e2 => ?_
    obtain ⟨ds, hd⟩ := rowCells h.d.rg.row e2
    exact h.d.lg.notTy hd (by decide) (by decide) (by decide) e
  · refine hpush.keep (fun g hg => hset g ?_) fun g cs hc => hset g ?_
    · obtain ⟨ds, hd⟩ := rowCells hpush.row hg
      exact neType hd hpx (by decide)
    · exact neType hc hpx (by decide)
  · refine hbe.trans ⟨rfl, rfl, rfl, by rw [World.size_setCell]; exact Nat.le_refl _, fun b hb => hset b ?_⟩
    have := h.d.po; omega
  · rw [hset _ (neType h.box h.d.row (by decide))]
    exact hne _ _ _ h.box (by decide)
theorem okS (n : Nat) (h1 : 1 ≤ n) (h2 : n ≤ 16) : (⟨n, [], [], [], []⟩ : LS).Ok 0 := by
  exact ⟨h1, h2, Nat.zero_le _, rfl, List.Pairwise.nil, List.Pairwise.nil, fun s => by simp, fun k hk => by simp at hk, fun r hr => by simp at hr, rfl⟩
def RigP (w : World) (n ext size first N : Nat) (e : Ending) (w' : World) : Prop := ∃ px lp p bm gv vs, e = .returned (.tuple #[.pointer (some ⟨px, 0, none⟩), .bool true]) ∧ RgD w w' px lp p bm (.slice none 0 0) (.slice none 0 0) (.slice none 0 0) ⟨n, [], [], [], []⟩ n ext size first first 0 gv vs (List.replicate N (List.replicate size 0)) false 0
set_option maxHeartbeats 4000000 in
theorem rig_any (w : World) (n ext size first N : Nat) (h1 : 1 ≤ n) (h2 : n ≤ 16) (h3 : 1 ≤ ext) (h4 : ext ≤ 1024) (h5 : size = 128 ∨ size = 256 ∨ size = 512 ∨ size = 1024) (hN : (N : Int) = ringN (n : Int)) :
    Calls Try.prog 15 #[.agg #[.int .i64 (n : Int), .int .i64 (ext : Int), .int .i64 (size : Int), .int .u32 (first : Int)]] w (RigP w n ext size first N) := by
  obtain ⟨i0, hi, hz0, hz1, hz2⟩ := info_parts info_bys
  have hN1 : 1 ≤ N ∧ N ≤ 4 := by
    unfold ringN at hN
    rw [if_neg (by omega)] at hN
    split at hN
    · omega
    · split at hN <;> omega
  have HN := hide fun x => logNew_any x n ext size first h1 h2 h3 h4 h5
  have HR := hide fun x => ring_any x (n : Int)
  rw [← hN] at HR
  clear hN
  have HB0 : Hid (Below w.heap.size w (w.alloc (.cells #[.int .i64 (n : Int), .int .i64 (ext : Int), .int .i64 (size : Int), .int .u32 (first : Int)] 35)) ∧ (w.alloc (.cells #[.int .i64 (n : Int), .int .i64 (ext : Int), .int .i64 (size : Int), .int .u32 (first : Int)] 35)).heap[w.heap.size]? = some (.cells #[.int .i64 (n : Int), .int .i64 (ext : Int), .int .i64 (size : Int), .int .u32 (first : Int)] 35 (0, 0))) := hide ⟨(Below.refl _ _).alloc (Nat.le_refl _) _, Go.heap_alloc_new _ _⟩
  have HNM := hide fun x => num_any x 0
  have q2 := ptrL'
  have hNi : (1 : Int) ≤ (N : Int) := by omega
  have hNi2 : (N : Int) ≤ 16 := by omega
  have hNf : ((N : Int) < 1) = False := by simp; omega
  have hNf2 : ((16 : Int) < (N : Int)) = False := by simp; omega
  go_enter Try.func15, Try.ntmps15
  go_wp2_with (first
    | (go_at_call 29; refine (HN.out _).mono ?_; rintro e w1 ⟨lp, hlp, rfl, hlg, hb1⟩; have HLG := hide hlg; have HB1 := hide hb1; have HBX := hide ((hb1.block _ (by simp)).trans HB0.out.2); have k0 : w1.cell? ⟨w.heap.size, 0, none⟩ = some (.int .i64 (n : Int)) := cell_of_row _ _ _ _ _ _ HBX.out; have k1 : w1.cell? ⟨w.heap.size, 1, none⟩ = some (.int .i64 (ext : Int)) := cell_of_row _ _ _ _ _ _ HBX.out; have k2 : w1.cell? ⟨w.heap.size, 2, none⟩ = some (.int .i64 (size : Int)) := cell_of_row _ _ _ _ _ _ HBX.out; have k3 : w1.cell? ⟨w.heap.size, 3, none⟩ = some (.int .u32 (first : Int)) := cell_of_row _ _ _ _ _ _ HBX.out; clear hb1 hlg)
    | (go_at_call 30; refine (HR.out _).mono ?_; rintro e w1 ⟨rfl, rfl⟩)
    | (go_at_call 12; refine (HNM.out _).mono ?_; rintro e w1 ⟨rfl, rfl⟩))
  have HW0 : Hid (RiW w (w1.alloc (.cells #[.pointer (some ⟨lp, 0, none⟩), .int .i64 (n : Int), .int .i64 (ext : Int), .int .i64 (size : Int), .int .u32 (first : Int), .slice none 0 0, .bool false] 45)) w1.heap.size lp (w.heap.size + 1 + 1) (w.heap.size + 1) n ext size first (.slice none 0 0) [] 0) := hide (by
    have hb : Below w.heap.size w w1 := HB0.out.1.trans (HB1.out.mono (by simp))
    have hb2 := (Below.refl w1.heap.size w1).alloc (Nat.le_refl _) (.cells #[.pointer (some ⟨lp, 0, none⟩), .int .i64 (n : Int), .int .i64 (ext : Int), .int .i64 (size : Int), .int .u32 (first : Int), .slice none 0 0, .bool false] 45)
    have hlg := HLG.out
    simp only [World.size_alloc] at hlg
    have hlp' : w.heap.size + 1 ≤ lp := by simpa using hlp
    refine ⟨⟨Go.heap_alloc_new _ _, hlg.below hb2, okS n h1 h2, rfl, ⟨⟨rfl, .inl ⟨rfl, rfl⟩⟩, fun b e => by simp [Value.ownBlock] at e, by simp, fun k hk => by simp at hk⟩, hb.trans (hb2.mono hb.size), fun b e => ?_, hb.size, Nat.le_refl _⟩, (hb2.block _ (by have := (Array.getElem?_eq_some_iff.1 HBX.out).1; exact this)).trans HBX.out⟩
    rcases e with e | e | e | e | e | e
    · omega
    · omega
    · omega
    · simp [Value.ownBlock] at e
    · simp [Value.ownBlock] at e
    · simp [Value.ownBlock] at e)
  clear HN HR HNM HB0 HB1 HLG HBX k0 k1 k2 k3 hNi hNi2 hNf hNf2 q2
  generalize w1.alloc (.cells #[.pointer (some ⟨lp, 0, none⟩), .int .i64 (n : Int), .int .i64 (ext : Int), .int .i64 (size : Int), .int .u32 (first : Int), .slice none 0 0, .bool false] 45) = w2 at *
  generalize hpx : w1.heap.size = px at *
  clear hpx
  have hmk := fun W : World => run_byts size (by omega) W
  go_loopw [8] (fun x wr => ∃ i : Nat, ∃ gv vs, i ≤ N ∧ x = .int .i64 (i : Int) ∧ RiW w wr px lp (w.heap.size + 1 + 1) (w.heap.size + 1) n ext size first gv vs i) (fun x _ => N - (intOf x).toNat)
  case atStart => exact ⟨0, _, _, Nat.zero_le _, rfl, HW0.out⟩
  case round =>
    clear HW0
    obtain ⟨i, gv, vs, hiN, rfl, hri⟩ := hrel
    have HRI := hide hri
    obtain ⟨ga, gcap, rfl, -, -⟩ := rowForm hri.d.rg.row
    have hvl : vs.length = i := by rw [hri.d.rg.len]; simp
    have HVL := hide hvl
    by_cases hlt : i < N
    · have hil : (i : Int) < (N : Int) := by omega
      have c5 : wr.drew.cell? ⟨px, 5, none⟩ = some (.slice ga vs.length gcap) := cell_of_row _ _ _ _ _ _ hri.d.row
      have b2 : wr.drew.cell? ⟨w.heap.size, 2, none⟩ = some (.int .i64 (size : Int)) := cell_of_row _ _ _ _ _ _ hri.box
      rw [hvl] at c5
      have HC5 : Hid (∀ x, Below wr.heap.size wr x → x.cell? ⟨px, 5, none⟩ = some (.slice ga i gcap)) := hide fun x hx => by
        have hlt := (Array.getElem?_eq_some_iff.1 hri.d.row).1
        rw [hx.cell hlt]; exact c5
      have c5a : (wr.alloc (.cells (byts (List.replicate size 0)) 5)).drew.cell? ⟨px, 5, none⟩ = some (.slice ga i gcap) := HC5.out _ ((Below.refl _ _).alloc (Nat.le_refl _) _).drew
      have c5b : ((wr.alloc (.cells (byts (List.replicate size 0)) 5)).alloc (.cells #[.slice (some ⟨wr.heap.size, 0, none⟩) size size] 23)).drew.cell? ⟨px, 5, none⟩ = some (.slice ga i gcap) := HC5.out _ (((Below.refl _ _).alloc (Nat.le_refl _) _).alloc (by simp) _).drew
      clear hri hvl
      have HOW : Hid (((wr.alloc (.cells (byts (List.replicate size 0)) 5)).drew.alloc (.cells #[.slice (some ⟨wr.heap.size, 0, none⟩) size size] 23)).ownsRow 0 23 1 (.slice ga i gcap) i vs) := hide (by
        have := (HRI.out.d.rg.below (((Below.refl _ _).alloc (Nat.le_refl _) (.cells (byts (List.replicate size 0)) 5)).drew.alloc (by simp) (.cells #[.slice (some ⟨wr.heap.size, 0, none⟩) size size] 23))).row
        rw [HVL.out] at this
        exact this)
      have HMO : Hid (∀ w6 v6, w6.ownsRow 0 23 1 v6 (i + 1) (vs ++ [.slice (some ⟨wr.heap.size, 0, none⟩) size size]) → Upon ((wr.alloc (.cells (byts (List.replicate size 0)) 5)).drew.alloc (.cells #[.slice (some ⟨wr.heap.size, 0, none⟩) size size] 23)) w6 (.slice ga i gcap) v6 → _) := hide fun w6 v6 h6 hu6 => RiW.more (by have := HRI.out; rw [HVL.out] at this; exact this) (by omega) h6 hu6
      have HNW : Hid (∀ j u, ([.slice (some ⟨wr.heap.size, 0, none⟩) size size] : List Value)[j]? = some u → ((wr.alloc (.cells (byts (List.replicate size 0)) 5)).drew.alloc (.cells #[.slice (some ⟨wr.heap.size, 0, none⟩) size size] 23)).cell? ((⟨wr.heap.size + 1, 0, none⟩ : Addr).add j) = some u) := hide (by
        have h9 := new1 (wr.alloc (.cells (byts (List.replicate size 0)) 5)).drew (.slice (some ⟨wr.heap.size, 0, none⟩) size size) 23
        rwa [show (wr.alloc (.cells (byts (List.replicate size 0)) 5)).drew.heap.size = wr.heap.size + 1 from World.size_alloc ..] at h9)
      clear HRI
      go_wp2_with fail
      go_region_law (go_loud (first
        | (refine step_append1 rfl (.tmp 52) (.tmp 56) 22 rfl 23 i0 (.slice none 0 0) 24 Try.underlying22 hi hz0 hz1 hz2 rfl (.slice ga i gcap) i vs rfl HOW.out ⟨wr.heap.size + 1, 0, none⟩ 1 (.slice (some ⟨wr.heap.size, 0, none⟩) size size) rfl HNW.out rfl (by unfold maxLen; omega) (by omega) ?_; intro v6 w6 ho6 hu6; obtain ⟨a6, cap6, rfl, -, -⟩ := rowForm ho6; obtain ⟨⟨x5, f5⟩, hri6⟩ := HMO.out w6 _ ho6 hu6; have HR6 := hide hri6; clear hri6 ho6 hu6)))
      all_goals (try go_wp2_with fail)
      all_goals (first | exact ⟨⟨i + 1, _, _, by omega, by go_num, HR6.out⟩, by simp [intOf]; omega⟩ | (go_roundw; case rel => exact ⟨i + 1, _, _, by omega, by go_num, HR6.out⟩; case measure => simp [intOf]; omega))
    · have hif : ¬ (i : Int) < (N : Int) := by omega
      have ei : i = N := by omega
      have HF := hide hri.d
      rw [ei] at HF
      clear hri
      go_wp2_with fail
      go_ret2
      exact ⟨_, _, _, _, _, _, rfl, HF.out⟩
end Go.Proofs.Ytlkccencilhacaa
namespace Go.Proofs.Ytlkccencilhacaa
open Go.RowKit Go.Sort
open Num
set_option linter.unusedVariables false
set_option linter.unusedSimpArgs false
set_option maxRecDepth 20000

section
variable {w0 x y : World} {px lp p bm : Nat} {kv rv iv : Value} {S : LS} {n ext size first0 first written : Nat} {gv : Value} {vs : List Value} {bs : List (List Nat)} {wrote : Bool} {i : Nat}
theorem RgD.below (h : RgD w0 x px lp p bm kv rv iv S n ext size first0 first written gv vs bs wrote i) (hb : Below x.heap.size x y) : RgD w0 y px lp p bm kv rv iv S n ext size first0 first written gv vs bs wrote i :=
  ⟨(hb.block _ (Array.getElem?_eq_some_iff.1 h.row).1).trans h.row, h.lg.below hb, h.ok, h.sl, h.rg.below hb, h.be.trans (hb.mono h.be.size), h.lo, h.po, h.wr⟩
/-- the log turned -/
theorem RgD.turn {kv' rv' iv' : Value} {S' : LS} {written' i' : Nat} (h : RgD w0 x px lp p bm kv rv iv S n ext size first0 first written gv vs bs wrote i) (q1 : LgR y lp p bm kv' rv' iv' S' ext size first written') (q2 : S'.Ok i') (q3 : S'.slots = S.slots) (q5 : Chg (GU lp p bm kv rv iv) x y) (q6 : ∀ b, GU lp p bm kv' rv' iv' b → GU lp p bm kv rv iv b ∨ x.heap.size ≤ b) (q7 : written' ≤ i') : RgD w0 y px lp p bm kv' rv' iv' S' n ext size first0 first written' gv vs bs wrote i' := by
  have hk : ∀ (g : Nat) (cs : Array Value) (t : TypeId), x.heap[g]? = some (.cells cs t (0, 0)) → t ≠ 106 → t ≠ 114 → t ≠ 3 → y.heap[g]? = x.heap[g]? := fun g cs t hc h1 h2 h3 => q5.keep g (Array.getElem?_eq_some_iff.1 hc).1 (h.lg.notTy hc h1 h2 h3)
  refine ⟨(hk _ _ _ h.row (by decide) (by decide) (by decide)).trans h.row, q1, q2, q3.trans h.sl, h.rg.keep (fun g hg => ?_) (fun g cs hc => hk g cs _ hc (by decide) (by decide) (by decide)), h.be.trans (q5.below h.be.size h.lo), fun b e => ?_, h.po, q7⟩
  · obtain ⟨cs, hc⟩ := rowCells h.rg.row hg
    exact hk g cs _ hc (by decide) (by decide) (by decide)
  · rcases q6 b e with e | e
    · exact h.lo b e
    · have := h.be.size; omega
/-- a block of the ring replaced -/
theorem RgD.put (h : RgD w0 x px lp p bm kv rv iv S n ext size first0 first written gv vs bs wrote i) {g k cap : Nat} {v : Value} {l : List Nat} (hg : gv = .slice (some ⟨g, 0, none⟩) bs.length cap) (hk : k < bs.length) (hv : UB x w0.heap.size v l) : RgD w0 (x.setCell ⟨g, k, none⟩ v) px lp p bm kv rv iv S n ext size first0 first written gv (vs.set k v) (bs.set k l) wrote i := by
  subst hg
  obtain ⟨cs, hc⟩ := rowCells h.rg.row (g := g) rfl
  have hset : ∀ b, b ≠ g → (x.setCell ⟨g, k, none⟩ v).heap[b]? = x.heap[b]? := fun b hb => Go.heap_setCell_other _ _ _ _ hb
  have hlo := h.rg.own g rfl
  have hu : ∀ (b : Nat) (ds : Array Value), x.heap[b]? = some (.cells ds 5 (0, 0)) → (x.setCell ⟨g, k, none⟩ v).heap[b]? = x.heap[b]? := fun b ds hd => hset b (neType hd hc (by decide))
  refine ⟨(hset _ (neType h.row hc (by decide))).trans h.row, h.lg.kept fun b e => hset b fun e2 => h.lg.notTy hc (by decide) (by decide) (by decide) (e2 ▸ e), h.ok, h.sl, ⟨?_, h.rg.own, by simp [h.rg.len], fun j hj => ?_⟩, h.be.trans ⟨rfl, rfl, rfl, by rw [World.size_setCell]; exact Nat.le_refl _, fun b hb => hset b (by omega)⟩, h.lo, h.po, h.wr⟩
  · have hr := h.rg.row
    rw [List.length_set]
    rw [h.rg.len] at hr ⊢
    exact row_set hr hk
  · rw [List.length_set] at hj
    by_cases e : j = k
    · subst e
      have e1 : (vs.set j v).getD j undef = v := by simp [List.getD, h.rg.len, hk]
      have e2 : (bs.set j l).getD j [] = l := by simp [List.getD, hk]
      rw [e1, e2]
      exact hv.keep fun b hb => by obtain ⟨ds, hd⟩ := hv.block hb; exact hu b ds hd
    · have e1 : (vs.set k v).getD j undef = vs.getD j undef := by simp [List.getD, Ne.symm e]
      have e2 : (bs.set k l).getD j [] = bs.getD j [] := by simp [List.getD, Ne.symm e]
      rw [e1, e2]
      exact (h.rg.ub j hj).keep fun b hb => by obtain ⟨ds, hd⟩ := (h.rg.ub j hj).block hb; exact hu b ds hd
/-- it has written -/
theorem RgD.setW (h : RgD w0 x px lp p bm kv rv iv S n ext size first0 first written gv vs bs wrote i) (b : Bool) : RgD w0 (x.setCell ⟨px, 6, none⟩ (.bool b)) px lp p bm kv rv iv S n ext size first0 first written gv vs bs b i := by
  have hset : ∀ b', b' ≠ px → (x.setCell ⟨px, 6, none⟩ (.bool b)).heap[b']? = x.heap[b']? := fun b' hb => Go.heap_setCell_other _ _ _ _ hb
  refine ⟨?_, h.lg.kept fun b e => hset b fun e2 => h.lg.notTy h.row (by decide) (by decide) (by decide) (e2 ▸ e), h.ok, h.sl, h.rg.keep (fun g hg => ?_) (fun g cs hc => hset g (neType hc h.row (by decide))), h.be.trans ⟨rfl, rfl, rfl, by rw [World.size_setCell]; exact Nat.le_refl _, fun b hb => hset b (by have := h.po; omega)⟩, h.lo, h.po, h.wr⟩
  · rw [Go.heap_setCell_same _ _ _ _ _ _ h.row]; rfl
  · obtain ⟨cs, hc⟩ := rowCells h.rg.row hg
    exact hset g (neType hc h.row (by decide))
end
/-- what Rig.lay does -/
def LayP (w0 : World) (px lp p bm : Nat) (kv rv iv : Value) (S : LS) (n ext size first0 first written : Nat) (gv : Value) (bs : List (List Nat)) (num : Nat) (l : List Nat) (i : Nat) (e : Ending) (w' : World) : Prop := e = .returned (.bool true) ∧ ∃ vs', RgD w0 w' px lp p bm kv rv iv S n ext size first0 first written gv vs' (bs.set (num % bs.length) l) true i
set_option maxHeartbeats 4000000 in
theorem xlay_any {w0 x : World} {px lp p bm : Nat} {kv rv iv : Value} {S : LS} {n ext size first0 first written : Nat} {gv : Value} {vs : List Value} {bs : List (List Nat)} {wrote : Bool} {i : Nat} (h : RgD w0 x px lp p bm kv rv iv S n ext size first0 first written gv vs bs wrote i) (hn1 : 1 ≤ bs.length) (hn4 : bs.length ≤ 4) (hsz : size ≤ 1024) (num : Nat) (hnum : num < 4294967296) (v : Value) (l : List Nat) (hv : BSl x v l) (hl : l.length = size) :
    Calls Try.prog 19 #[.pointer (some ⟨px, 0, none⟩), v, .int .u32 (num : Int)] x (LayP w0 px lp p bm kv rv iv S n ext size first0 first written gv bs num l i) := by
  obtain ⟨g, cap, rfl, hgc⟩ : ∃ g cap, gv = .slice (some ⟨g, 0, none⟩) bs.length cap ∧ bs.length ≤ cap := by
    rcases h.rg.row.2 with ⟨e, e2⟩ | ⟨g', cap', cur, e, _, _, h1, _⟩
    · have := h.rg.len; omega
    · rw [h.rg.len] at e h1; exact ⟨g', cap', e, h1⟩
  have HCP := hide (copied_any v l x.drew hv (by omega))
  have HF : Hid (∀ z v', UB z x.heap.size v' l → Below x.heap.size x z → (∃ u, z.cell? ⟨g, num % bs.length, none⟩ = some u) ∧ z.frozen? ⟨g, num % bs.length, none⟩ = false ∧ z.cell? ⟨px, 5, none⟩ = some (.slice (some ⟨g, 0, none⟩) bs.length cap) ∧ (z.setCell ⟨g, num % bs.length, none⟩ v').cell? ⟨px, 5, none⟩ = some (.slice (some ⟨g, 0, none⟩) bs.length cap) ∧ (z.setCell ⟨g, num % bs.length, none⟩ v').cell? ⟨px, 6, none⟩ = some (.bool wrote) ∧ (z.setCell ⟨g, num % bs.length, none⟩ v').frozen? ⟨px, 6, none⟩ = false ∧ LayP w0 px lp p bm kv rv iv S n ext size first0 first written (.slice (some ⟨g, 0, none⟩) bs.length cap) bs num l i (.returned (.bool true)) ((z.setCell ⟨g, num % bs.length, none⟩ v').setCell ⟨px, 6, none⟩ (.bool true))) := hide fun z v' hu hb => by
    have hz := h.below hb
    have hk : num % bs.length < bs.length := Nat.mod_lt _ (by omega)
    have hp := hz.put rfl hk (hu.mono h.be.size)
    obtain ⟨cs, hc⟩ := rowCells hz.rg.row (g := g) rfl
    refine ⟨?_, frozen_of_row _ _ _ _ 23 hc, cell_of_row _ _ _ _ _ _ hz.row, cell_of_row _ _ _ _ _ _ hp.row, cell_of_row _ _ _ _ _ _ hp.row, frozen_of_row _ _ _ _ 45 hp.row, rfl, _, hp.setW true⟩
    have hrr := hz.rg.row
    rw [hz.rg.len] at hrr
    rw [hrr.cellAt _ (by omega)]
    exact ⟨_, List.getElem?_eq_getElem (by rw [hz.rg.len]; exact hk)⟩
  have c3 : x.cell? ⟨px, 3, none⟩ = some (.int .i64 (size : Int)) := cell_of_row _ _ _ _ _ _ h.row
  have c5 : x.cell? ⟨px, 5, none⟩ = some (.slice (some ⟨g, 0, none⟩) bs.length cap) := cell_of_row _ _ _ _ _ _ h.row
  obtain ⟨va, vcap, rfl, -⟩ := hv
  rw [hl] at HCP ⊢
  have hrem : (num : Int) % (bs.length : Int) = ((num % bs.length : Nat) : Int) := by simp
  have hrem2 : (num : Int).tmod (bs.length : Int) = ((num % bs.length : Nat) : Int) := by rw [Int.tmod_eq_emod_of_nonneg (by omega)]; exact hrem
  have hkl : ((num % bs.length : Nat) : Int) < (bs.length : Int) := by have := Nat.mod_lt num (show 0 < bs.length by omega); omega
  have hkl2 : num % bs.length < bs.length := Nat.mod_lt num (by omega)
  clear h hl
  generalize num % bs.length = kk at *
  have HBL : Hid (bs.length = bs.length) := hide rfl
  generalize hbl : bs.length = nb at *
  clear hbl HBL
  have hnb : ¬ (nb : Int) = 0 := by omega
  have hnb2 : ¬ nb = 0 := by omega
  have hw1 : IntKind.i64.wrap (num : Int) = (num : Int) := by simp [IntKind.wrap, IntKind.bits, IntKind.signed]; omega
  have hw2 : IntKind.i64.wrap (kk : Int) = (kk : Int) := by simp [IntKind.wrap, IntKind.bits, IntKind.signed]; omega
  have hw3 : IntKind.i64.wrap ((num : Int) % (nb : Int)) = (kk : Int) := by rw [hrem, hw2]
  go_enter Try.func19, Try.ntmps19
  go_wp2_with fail
  go_region_held3 (fun z => z.cell? ⟨px, 5, none⟩ = some (.slice (some ⟨g, 0, none⟩) nb cap)) (first | exact c5 | exact x5 | exact x5b)
    ((go_at_call 8; refine HCP.out.mono ?_; rintro e z ⟨v', rfl, hu, hb⟩; obtain ⟨a9, cap9, rfl⟩ := hu.form; obtain ⟨⟨u9, y1⟩, y2, x5, x5b, y4, y5, y6⟩ := HF.out z _ hu ⟨hb.os, hb.tape, hb.output, hb.size, hb.block⟩; have HL6 := hide y6; clear hu hb y6))
  go_wp2_with fail
  go_ret
  exact HL6.out
end Go.Proofs.Ytlkccencilhacaa
namespace Go.Proofs.Ytlkccencilhacaa
open Num
set_option linter.unusedVariables false
set_option maxRecDepth 20000
/-- a new record goes in: all others are one further ahead -/
theorem Win.next {slots ext size n N : Nat} {W : Nat → Option Rc} {wr : Nat} {R : Nat → List Int} {bs : List (List Nat)} (h : Win slots ext size n N W wr R bs) {r : Rc} {row : List Int} (hn : r.num = N) (hok : r.Ok slots ext) (ha : r.age = min wr 65535) (hst : r.st = ((wr * 4 % slots : Nat) : Int)) (hC : r.C = ctxL row (wr * 4 % slots)) (hrow : row = (R 0).set r.c0.toNat r.c1) :
    Win slots ext size n ((N + 1) % 4294967296) (fun d => if d = 0 then some r else W (d - 1)) (wr + 1) (fun d => if d = 0 then row else R (d - 1)) (bs.set (N % n) (r.bytes size)) := by
  have hN := h.nl
  have hn1 := h.n1
  have hidx : ∀ d, d < n → ((N + 1) % 4294967296 + 4294967295 - d) % n = (if d = 0 then N % n else (N + 4294967295 - (d - 1)) % n) := fun d hd => by
    by_cases e : d = 0
    · subst e
      rw [if_pos rfl]
      rcases hn1 with rfl | rfl | rfl <;> omega
    · rw [if_neg e]
      rcases hn1 with rfl | rfl | rfl <;> omega
  refine ⟨h.s1, h.s2, h.s3, h.sz, hn1, h.n2, Nat.mod_lt _ (by decide), by rw [List.length_set]; exact h.len, fun d hd => ?_, fun d q hd hq => ?_, fun d q hd hq => ?_, fun d hd hq => ?_, by omega, fun d hd hdw => ?_, fun d => ?_, fun hw => ?_⟩
  · rw [hidx d hd]
    by_cases e : d = 0
    · subst e
      rw [if_pos rfl, List.getElem?_set_self (by rw [h.len]; exact Nat.mod_lt _ (by omega))]
      rfl
    · rw [if_neg e, List.getElem?_set_ne (by
        rcases hn1 with rfl | rfl | rfl <;> omega), h.bat (d - 1) (by omega)]
      simp only [e, if_false]
  · by_cases e : d = 0
    · subst e
      simp only [if_true, Option.some.injEq] at hq
      rw [← hq, hn]
      omega
    · simp only [e, if_false] at hq
      rw [h.num (d - 1) q (by omega) hq]
      omega
  · by_cases e : d = 0
    · subst e
      simp only [if_true, Option.some.injEq] at hq
      rw [← hq]
      exact ⟨hok, by rw [ha]; omega⟩
    · simp only [e, if_false] at hq
      exact h.rok (d - 1) q (by omega) hq
  · by_cases e : d = 0
    · subst e; simp at hq
    · simp only [e, if_false] at hq
      simp only [Nat.add_eq_zero_iff, Nat.one_ne_zero, and_false, if_false, Nat.add_sub_cancel]
      have := h.pre (d - 1) (by omega) hq
      rwa [show d - 1 + 1 = d by omega] at this
  · by_cases e : d = 0
    · subst e
      refine ⟨r, by simp, by simpa using ha, by simpa using hst, by simpa using hC, ?_⟩
      simpa using hrow
    · obtain ⟨q, q1, q2, q3, q4, q5⟩ := h.run (d - 1) (by omega) (by omega)
      have e1 : wr - 1 - (d - 1) = wr + 1 - 1 - d := by omega
      rw [e1] at q2 q3 q4
      refine ⟨q, by simp only [e, if_false]; exact q1, q2, q3, by simp only [e, if_false]; exact q4, ?_⟩
      simp only [e, if_false, Nat.add_eq_zero_iff, Nat.one_ne_zero, and_false, Nat.add_sub_cancel]
      rw [show d - 1 + 1 = d by omega] at q5
      exact q5
  · by_cases e : d = 0
    · subst e; simp only [if_true]; rw [hrow, List.length_set]; exact h.rl 0
    · simp only [e, if_false]; exact h.rl (d - 1)
  · simp only [Nat.add_eq_zero_iff, Nat.one_ne_zero, and_false, if_false, Nat.add_sub_cancel]
    exact h.r0 (by omega)
/-- a ring that logs have written, whatever the runs -/
structure WinB (slots ext size n N : Nat) (W : Nat → Option Rc) (bs : List (List Nat)) : Prop where
  s1 : 1 ≤ slots
  s2 : slots ≤ 16
  s3 : ext ≤ 1024
  sz : vsz size
  n1 : n = 1 ∨ n = 2 ∨ n = 4
  n2 : slots ≤ 4 * n
  nl : N < 4294967296
  len : bs.length = n
  bat : ∀ d, d < n → bs[(N + 4294967295 - d) % n]? = some (match W d with | none => List.replicate size 0 | some r => r.bytes size)
  num : ∀ d r, d < n → W d = some r → r.num = (N + 4294967295 - d) % 4294967296
  rok : ∀ d r, d < n → W d = some r → r.Ok slots ext ∧ r.age ≤ 65535
  pre : ∀ d, d + 1 < n → W d = none → W (d + 1) = none
theorem Win.toB {slots ext size n N : Nat} {W : Nat → Option Rc} {wr : Nat} {R : Nat → List Int} {bs : List (List Nat)} (h : Win slots ext size n N W wr R bs) : WinB slots ext size n N W bs := ⟨h.s1, h.s2, h.s3, h.sz, h.n1, h.n2, h.nl, h.len, h.bat, h.num, h.rok, h.pre⟩
/-- a blank ring -/
theorem WinB.blank {slots ext size n N : Nat} (h1 : 1 ≤ slots) (h2 : slots ≤ 16) (h3 : ext ≤ 1024) (h4 : vsz size) (h5 : n = 1 ∨ n = 2 ∨ n = 4) (h6 : slots ≤ 4 * n) (h7 : N < 4294967296) : WinB slots ext size n N (fun _ => none) (List.replicate n (List.replicate size 0)) :=
  ⟨h1, h2, h3, h4, h5, h6, h7, by simp, fun d hd => by
    rw [List.getElem?_replicate, if_pos (Nat.mod_lt _ (by omega))], fun d r _ e => by simp at e, fun d r _ e => by simp at e, fun d _ _ => rfl⟩
/-- the first record of a run -/
theorem WinB.first {slots ext size n N : Nat} {W : Nat → Option Rc} {bs : List (List Nat)} (h : WinB slots ext size n N W bs) {r : Rc} {row : List Int} (hn : r.num = N) (hok : r.Ok slots ext) (ha : r.age = 0) (hst : r.st = 0) (hC : r.C = ctxL row 0) (hrow : row = (List.replicate slots (-1)).set r.c0.toNat r.c1) :
    Win slots ext size n ((N + 1) % 4294967296) (fun d => if d = 0 then some r else W (d - 1)) 1 (fun d => if d = 0 then row else List.replicate slots (-1)) (bs.set (N % n) (r.bytes size)) := by
  have hN := h.nl
  have hn1 := h.n1
  have hidx : ∀ d, d < n → ((N + 1) % 4294967296 + 4294967295 - d) % n = (if d = 0 then N % n else (N + 4294967295 - (d - 1)) % n) := fun d hd => by
    by_cases e : d = 0
    · subst e
      rw [if_pos rfl]
      rcases hn1 with rfl | rfl | rfl <;> omega
    · rw [if_neg e]
      rcases hn1 with rfl | rfl | rfl <;> omega
  refine ⟨h.s1, h.s2, h.s3, h.sz, hn1, h.n2, Nat.mod_lt _ (by decide), by rw [List.length_set]; exact h.len, fun d hd => ?_, fun d q hd hq => ?_, fun d q hd hq => ?_, fun d hd hq => ?_, Nat.le_refl _, fun d hd hdw => ?_, fun d => ?_, fun hw => ?_⟩
  · rw [hidx d hd]
    by_cases e : d = 0
    · subst e
      rw [if_pos rfl, List.getElem?_set_self (by rw [h.len]; exact Nat.mod_lt _ (by omega))]
      rfl
    · rw [if_neg e, List.getElem?_set_ne (by
        rcases hn1 with rfl | rfl | rfl <;> omega), h.bat (d - 1) (by omega)]
      simp only [e, if_false]
      cases W (d - 1) <;> rfl
  · by_cases e : d = 0
    · subst e
      simp only [if_true, Option.some.injEq] at hq
      rw [← hq, hn]
      omega
    · simp only [e, if_false] at hq
      rw [h.num (d - 1) q (by omega) hq]
      omega
  · by_cases e : d = 0
    · subst e
      simp only [if_true, Option.some.injEq] at hq
      rw [← hq]
      exact ⟨hok, by rw [ha]; omega⟩
    · simp only [e, if_false] at hq
      exact h.rok (d - 1) q (by omega) hq
  · by_cases e : d = 0
    · subst e; simp at hq
    · simp only [e, if_false] at hq
      simp only [Nat.add_eq_zero_iff, Nat.one_ne_zero, and_false, if_false, Nat.add_sub_cancel]
      have := h.pre (d - 1) (by omega) hq
      rwa [show d - 1 + 1 = d by omega] at this
  · have e : d = 0 := by omega
    subst e
    exact ⟨r, by simp, by simpa using ha, by simpa using hst, by simpa using hC, by simpa using hrow⟩
  · by_cases e : d = 0
    · subst e; simp only [if_true]; rw [hrow, List.length_set, List.length_replicate]
    · simp [e]
  · simp
/-- what Replay says of a blank ring -/
theorem blank_replay {slots ext size n : Nat} (hs : vsz size) (hn : 1 ≤ n) {res : Option (List Int × Nat)} (h : RpRes slots ext (List.replicate n (List.replicate size 0)) res) : res = some (List.replicate slots (-1), 0) := by
  have hpl : ∀ i, i < n → plc slots ext (List.replicate n (List.replicate size 0)).length ((List.replicate n (List.replicate size 0)).getD 0 []).length i ((List.replicate n (List.replicate size 0)).getD i []) none := fun i hi => by
    have e : ∀ k, k < n → (List.replicate n (List.replicate size 0)).getD k [] = List.replicate size 0 := fun k hk => by simp [List.getD, hk]
    rw [e i hi, e 0 (by omega)]
    exact ⟨⟨rfl, by simpa using hs⟩, .inl ⟨rfl, fun b hb => List.eq_of_mem_replicate hb⟩⟩
  have hall : ∀ {P}, Places slots ext (List.replicate n (List.replicate size 0)) P → ∀ p ∈ P, p = none := fun {P} hP p hp => by
    obtain ⟨i, hi, rfl⟩ := List.mem_iff_getElem.1 hp
    have hin : i < n := by have := hP.1; simp at this; omega
    have h1 := hP.2 i (by simpa using hin)
    have h2 := h1.uniq (hpl i hin)
    rw [List.getD_eq_getElem?_getD, List.getElem?_eq_getElem hi] at h2
    simpa using h2
  cases res with
  | none =>
    exfalso
    rcases h with ⟨i, hi, hp⟩ | ⟨P, hP, hne, -⟩
    · exact hp none (hpl i (by simpa using hi))
    · exact hne (hall hP)
  | some q =>
    obtain ⟨row, N⟩ := q
    obtain ⟨P, hP, ⟨-, rfl, rfl⟩ | ⟨hne, -⟩⟩ := h
    · rfl
    · exact absurd (hall hP) hne
/-- the record that Begin hands out -/
def rcOf (S' : LS) (first written : Nat) (c0 c1 c2 : Int) : Rc := ⟨(first + written) % 4294967296, min written 65535, S'.slots, c0, c1, c2, ((written * 4 % S'.slots : Nat) : Int), ctxL (rowL S') (written * 4 % S'.slots)⟩
theorem recOf_rc (S' : LS) (size first written : Nat) (c0 c1 c2 : Int) (h1 : 1 ≤ S'.slots) (h2 : S'.slots ≤ 16) : recOf S' size first written c0 c1 c2 = (rcOf S' first written c0 c1 c2).bytes size := by
  have e : u32N ((written * 4 % S'.slots : Nat) : Int) = written * 4 % S'.slots := u32N_nat _ (by have := Nat.mod_lt (written * 4) (show 0 < S'.slots by omega); omega)
  unfold recOf recB recH Rc.bytes Rc.head Rc.mid rcOf
  simp only
  rw [e]
end Go.Proofs.Ytlkccencilhacaa
namespace Go.Proofs.Ytlkccencilhacaa
open Num
set_option linter.unusedVariables false
set_option maxRecDepth 20000
theorem rowL_add {S : LS} {x : Int} (h : S.ks.length < S.slots) : rowL (S.add x) = (rowL S).set S.ks.length x := by
  unfold rowL LS.add
  simp only
  rw [List.set_append_right _ _ (Nat.le_refl _), Nat.sub_self, List.length_append, List.append_assoc]
  congr 1
  obtain ⟨k, hk⟩ : ∃ k, S.slots - S.ks.length = k + 1 := ⟨S.slots - S.ks.length - 1, by omega⟩
  have e : S.slots - (S.ks.length + [x].length) = k := by simp; omega
  rw [hk, e, List.replicate_succ]
  rfl
theorem rowL_swap {S : LS} {x : Int} {s : Nat} (h : s < S.ks.length) : rowL (({ S with mks := S.ks.set s x, ks := S.ks.set s x } : LS).take s) = (rowL S).set s x := by
  unfold rowL LS.take
  simp only
  rw [List.set_append_left _ _ h, List.length_set]
theorem rowL_rng {S : LS} {ext : Nat} (h : ∀ k ∈ S.ks, 0 ≤ k ∧ k < (ext : Int)) (he : 1 ≤ ext) : ∀ z ∈ rowL S, -1 ≤ z ∧ z < (ext : Int) := fun z hz => by
  unfold rowL at hz
  rcases List.mem_append.1 hz with hz | hz
  · have := h z hz; omega
  · have := List.eq_of_mem_replicate hz; omega
/-- the ring beside the log: what a run that has written says; ahead of that what the last one left -/
def WS (n ext size nr : Nat) (S : LS) (first written : Nat) (bs : List (List Nat)) (wrote : Bool) : Prop :=
  (∀ k ∈ S.ks, 0 ≤ k ∧ k < (ext : Int)) ∧ ((wrote = true ∧ 1 ≤ written ∧ ∃ W R, Win n ext size nr ((first + written) % 4294967296) W written R bs ∧ R 0 = rowL S) ∨ (wrote = false ∧ written = 0 ∧ S.ks = [] ∧ first < 4294967296 ∧ (bs = List.replicate nr (List.replicate size 0) ∨ ∃ W wr R, Win n ext size nr first W wr R bs)))
/-- numbers of a rig that is well made -/
structure WN (n ext size nr : Nat) : Prop where
  s1 : 1 ≤ n
  s2 : n ≤ 16
  e1 : 1 ≤ ext
  e2 : ext ≤ 1024
  sz : vsz size
  n1 : nr = 1 ∨ nr = 2 ∨ nr = 4
  n2 : n ≤ 4 * nr
theorem WS.start {n ext size nr first : Nat} (hf : first < 4294967296) : WS n ext size nr ⟨n, [], [], [], []⟩ first 0 (List.replicate nr (List.replicate size 0)) false :=
  ⟨fun k hk => by simp at hk, .inr ⟨rfl, rfl, rfl, hf, .inl rfl⟩⟩
theorem WS.same {n ext size nr first written : Nat} {S S' : LS} {bs : List (List Nat)} {wrote : Bool} (h : WS n ext size nr S first written bs wrote) (hk : S'.ks = S.ks) (hs : S'.slots = S.slots) : WS n ext size nr S' first written bs wrote := by
  have hr : rowL S' = rowL S := by unfold rowL; rw [hk, hs]
  unfold WS
  rw [hr, hk]
  exact h
theorem rcOf_ok {n ext : Nat} {S S' : LS} {M : Nat} {x old : Int} {slot first written : Nat} {gone : Bool} (hn1 : 1 ≤ n) (he : 1 ≤ ext) (hS : S.Ok M) (hsl : S.slots = n) (hk : ∀ k ∈ S.ks, 0 ≤ k ∧ k < (ext : Int)) (hx : 0 ≤ x ∧ x < (ext : Int)) (h : GetRes S x S' slot true old gone 0) :
    (rcOf S' first written (slot : Int) x (if gone then old else -1)).Ok n ext ∧ rowL S' = (rowL S).set slot x ∧ slot < n ∧ S'.slots = n ∧ ∀ k ∈ S'.ks, 0 ≤ k ∧ k < (ext : Int) := by
  have hsl' : S'.slots = n := h.slots.trans hsl
  have hkey : rowL S' = (rowL S).set slot x ∧ slot < n ∧ (∀ k ∈ S'.ks, 0 ≤ k ∧ k < (ext : Int)) ∧ (-1 ≤ (if gone then old else -1) ∧ (if gone then old else -1) < (ext : Int)) ∧ (if gone then old else -1) ≠ x := by
    rcases h with ⟨s, g1, -, -, e, -⟩ | ⟨g1, g2, rfl, rfl, -, rfl, rfl, -⟩ | ⟨g1, g2, s, r, o, g3, g4, rfl, rfl, -, rfl, rfl, -⟩ | ⟨-, -, -, -, -, e, -⟩
    · cases e
    · refine ⟨rowL_add g2, by omega, fun k hk' => ?_, by simp; omega, by simp; omega⟩
      unfold LS.add at hk'
      rcases List.mem_append.1 hk' with q | q
      · exact hk k q
      · rw [List.mem_singleton.1 q]; exact hx
    · have hs : slot < S.ks.length := (List.getElem?_eq_some_iff.1 g4).1
      have ho := hk old (List.mem_of_getElem? g4)
      refine ⟨rowL_swap hs, by omega, fun k hk' => ?_, by simp; omega, ?_⟩
      · unfold LS.take at hk'
        rcases List.mem_or_eq_of_mem_set hk' with q | q
        · exact hk k q
        · rw [q]; exact hx
      · simp only [if_true]
        exact fun e => g1 (e ▸ List.mem_of_getElem? g4)
    · cases e
  obtain ⟨h1, h2, h3, ⟨h4, h5⟩, h6⟩ := hkey
  have hl : (rowL S').length = n := by
    rw [h1, List.length_set, rowL_len hS, hsl]
  have hm : written * 4 % n < n := Nat.mod_lt _ (by omega)
  refine ⟨⟨hsl', by simp [rcOf], by show (slot : Int) < n; omega, by show (0 : Int) ≤ ((written * 4 % S'.slots : Nat) : Int); omega, by show ((written * 4 % S'.slots : Nat) : Int) < n; rw [hsl']; omega, ?_, fun i hi => ?_, hx.1, hx.2, h4, h5, h6, ?_⟩, h1, h2, hsl', h3⟩
  · show min written 65535 = 65535 ∨ ((written * 4 % S'.slots : Nat) : Int) = ((min written 65535 * 4 % n : Nat) : Int)
    rw [hsl']
    by_cases e : written < 65535
    · right; rw [Nat.min_eq_left (by omega)]
    · left; omega
  · show -1 ≤ (ctxL (rowL S') (written * 4 % S'.slots)).getD i 0 ∧ (ctxL (rowL S') (written * 4 % S'.slots)).getD i 0 < (ext : Int)
    rw [ctxL_get _ _ _ hi, List.getD_eq_getElem?_getD, List.getElem?_eq_getElem (Nat.mod_lt _ (by omega))]
    exact rowL_rng h3 he _ (List.getElem_mem _)
  · refine agrees (R := rowL S') (st := written * 4 % S'.slots) hl hn1 rfl rfl (by show (slot : Int).toNat < n; simpa using h2) ?_
    show (rowL S').getD (slot : Int).toNat 0 = x
    rw [h1, getDS, if_pos ⟨by simp, by rw [rowL_len hS, hsl]; simpa using h2⟩]
/-- Begin gave a record, and it is laid -/
theorem WS.beg {n ext size nr first written : Nat} {S S' : LS} {M : Nat} {bs : List (List Nat)} {wrote : Bool} {x old : Int} {slot : Nat} {gone : Bool} (hw : WN n ext size nr) (h : WS n ext size nr S first written bs wrote) (hS : S.Ok M) (hsl : S.slots = n) (hx : 0 ≤ x ∧ x < (ext : Int)) (hg : GetRes S x S' slot true old gone 0) :
    WS n ext size nr S' first (written + 1) (bs.set ((first + written) % 4294967296 % nr) (recOf S' size first written (slot : Int) x (if gone then old else -1))) true := by
  obtain ⟨hok, hrow, hsn, hsl', hk'⟩ := rcOf_ok (first := first) (written := written) hw.s1 hw.e1 hS hsl h.1 hx hg
  rw [recOf_rc _ _ _ _ _ _ _ (by rw [hsl']; exact hw.s1) (by rw [hsl']; exact hw.s2)]
  have hN : ((first + written) % 4294967296 + 1) % 4294967296 = (first + (written + 1)) % 4294967296 := by omega
  refine ⟨hk', .inl ⟨rfl, by omega, ?_⟩⟩
  rcases h.2 with ⟨-, h1, W, R, hW, hR⟩ | ⟨-, rfl, hks, hf, hor⟩
  · have hn := hW.next (r := rcOf S' first written (slot : Int) x (if gone then old else -1)) (row := rowL S') rfl hok rfl (by show ((written * 4 % S'.slots : Nat) : Int) = _; rw [hsl']) (by show ctxL (rowL S') (written * 4 % S'.slots) = _; rw [hsl']) (by rw [hR]; simpa [rcOf] using hrow)
    rw [hN] at hn
    exact ⟨_, _, hn, by simp⟩
  · have hB : ∃ W, WinB n ext size nr first W bs := by
      rcases hor with rfl | ⟨W, wr, R, hW⟩
      · exact ⟨_, WinB.blank hw.s1 hw.s2 hw.e2 hw.sz hw.n1 hw.n2 hf⟩
      · exact ⟨W, hW.toB⟩
    obtain ⟨W, hB⟩ := hB
    have hfe : (first + 0) % 4294967296 = first := by omega
    have hrS : rowL S = List.replicate n (-1) := by unfold rowL; rw [hks, hsl]; simp
    have hn := hB.first (r := rcOf S' first 0 (slot : Int) x (if gone then old else -1)) (row := rowL S') (by show (first + 0) % 4294967296 = first; omega) hok rfl (by show ((0 * 4 % S'.slots : Nat) : Int) = 0; simp) (by show ctxL (rowL S') (0 * 4 % S'.slots) = _; simp) (by rw [← hrS]; simpa [rcOf] using hrow)
    rw [hfe]
    rw [hfe] at hN
    rw [hN] at hn
    exact ⟨_, _, hn, by simp⟩
theorem WS.replay {n ext size nr first written : Nat} {S : LS} {bs : List (List Nat)} (h : WS n ext size nr S first written bs true) {res : Option (List Int × Nat)} (hr : RpRes n ext bs res) : res = some (rowL S, (first + written) % 4294967296) := by
  rcases h.2 with ⟨-, -, W, R, hW, hR⟩ | ⟨e, -⟩
  · rw [hW.replay hr, hR]
  · cases e
/-- whatever the state, Replay answers -/
theorem WS.some {n ext size nr first written : Nat} {S : LS} {bs : List (List Nat)} {wrote : Bool} (hw : WN n ext size nr) (h : WS n ext size nr S first written bs wrote) {res : Option (List Int × Nat)} (hr : RpRes n ext bs res) : ∃ row N, res = .some (row, N) := by
  rcases h.2 with ⟨-, -, W, R, hW, hR⟩ | ⟨-, -, -, -, rfl | ⟨W, wr, R, hW⟩⟩
  · exact ⟨_, _, hW.replay hr⟩
  · exact ⟨_, _, blank_replay hw.sz (by have := hw.n1; omega) hr⟩
  · exact ⟨_, _, hW.replay hr⟩
/-- the next run begins -/
theorem WS.again {n ext size nr first written : Nat} {S : LS} {bs : List (List Nat)} (h : WS n ext size nr S first written bs true) : WS n ext size nr ⟨n, [], [], [], []⟩ ((first + written) % 4294967296) 0 bs false := by
  rcases h.2 with ⟨-, -, W, R, hW, hR⟩ | ⟨e, -⟩
  · exact ⟨fun k hk => by simp at hk, .inr ⟨rfl, rfl, rfl, Nat.mod_lt _ (by decide), .inr ⟨W, _, R, hW⟩⟩⟩
  · cases e
theorem WS.len {n ext size nr first written : Nat} {S : LS} {bs : List (List Nat)} {wrote : Bool} (h : WS n ext size nr S first written bs wrote) : bs.length = nr := by
  rcases h.2 with ⟨-, -, W, R, hW, hR⟩ | ⟨-, -, -, -, rfl | ⟨W, wr, R, hW⟩⟩
  · exact hW.len
  · simp
  · exact hW.len
end Go.Proofs.Ytlkccencilhacaa
namespace Go.Proofs.Ytlkccencilhacaa
open Go.RowKit Go.Sort
open Num
set_option linter.unusedVariables false
set_option linter.unusedSimpArgs false
set_option maxRecDepth 20000

/-- a rig with what its ring says -/
def RgS (w0 x : World) (px n ext size first0 nr : Nat) (S : LS) (lp first written : Nat) (bs : List (List Nat)) (wrote : Bool) (i : Nat) : Prop := ∃ p bm kv rv iv gv vs, RgD w0 x px lp p bm kv rv iv S n ext size first0 first written gv vs bs wrote i ∧ WS n ext size nr S first written bs wrote ∧ ∀ k, (bs.getD k []).length ≤ 1024
theorem RgD.newLog {w0 x y : World} {px lp p bm : Nat} {kv rv iv : Value} {S : LS} {n ext size first0 first written : Nat} {gv : Value} {vs : List Value} {bs : List (List Nat)} {wrote : Bool} {i : Nat} (h : RgD w0 x px lp p bm kv rv iv S n ext size first0 first written gv vs bs wrote i) (h1 : 1 ≤ n) (h2 : n ≤ 16) {lp' N : Nat} (hb : Below x.heap.size x y) (hl : LgR y lp' (x.heap.size + 1) x.heap.size (.slice none 0 0) (.slice none 0 0) (.slice none 0 0) ⟨n, [], [], [], []⟩ ext size N 0) (hlp : x.heap.size ≤ lp') : RgD w0 ((y.setCell ⟨px, 0, none⟩ (.pointer (some ⟨lp', 0, none⟩))).setCell ⟨px, 6, none⟩ (.bool false)) px lp' (x.heap.size + 1) x.heap.size (.slice none 0 0) (.slice none 0 0) (.slice none 0 0) ⟨n, [], [], [], []⟩ n ext size first0 N 0 gv vs bs false i := by
  have hy := h.below hb
  have hpx := (Array.getElem?_eq_some_iff.1 h.row).1
  have hset : ∀ b', b' ≠ px → (y.setCell ⟨px, 0, none⟩ (.pointer (some ⟨lp', 0, none⟩))).heap[b']? = y.heap[b']? := fun b' hb => Go.heap_setCell_other _ _ _ _ hb
  have hok : (⟨n, [], [], [], []⟩ : LS).Ok i := by
    have := okS n h1 h2
    exact ⟨this.s1, this.s2, this.kl, this.rl, this.kd, this.id, this.im, this.kb, fun r hr => by simp at hr, this.me⟩
  have hne : ∀ b, GU lp' (x.heap.size + 1) x.heap.size (.slice none 0 0) (.slice none 0 0) (.slice none 0 0) b → x.heap.size ≤ b := fun b e => by
    rcases e with e | e | e | e | e | e
    · omega
    · omega
    · omega
    · simp [Value.ownBlock] at e
    · simp [Value.ownBlock] at e
    · simp [Value.ownBlock] at e
  have hd : RgD w0 (y.setCell ⟨px, 0, none⟩ (.pointer (some ⟨lp', 0, none⟩))) px lp' (x.heap.size + 1) x.heap.size (.slice none 0 0) (.slice none 0 0) (.slice none 0 0) ⟨n, [], [], [], []⟩ n ext size first0 N 0 gv vs bs wrote i := by
    refine ⟨?_, hl.kept fun b e => hset b (by have := hne b e; omega), hok, rfl, hy.rg.keep (fun g hg => ?_) (fun g cs hc => hset g (neType hc hy.row (by decide))), hy.be.trans ⟨rfl, rfl, rfl, by rw [World.size_setCell]; exact Nat.le_refl _, fun b hb => hset b (by have := h.po; omega)⟩, fun b e => by have := hne b e; have := h.be.size; omega, h.po, Nat.zero_le _⟩
    · rw [Go.heap_setCell_same _ _ _ _ _ _ hy.row]; rfl
    · obtain ⟨cs, hc⟩ := rowCells hy.rg.row hg
      exact hset g (neType hc hy.row (by decide))
  exact hd.setW false
def AgP (w0 : World) (px n ext size first0 nr N : Nat) (bs : List (List Nat)) (i : Nat) (e : Ending) (w' : World) : Prop := e = .returned (.bool true) ∧ ∃ lp, RgS w0 w' px n ext size first0 nr ⟨n, [], [], [], []⟩ lp N 0 bs false i
set_option maxHeartbeats 4000000 in
theorem xagain_any {w0 x : World} {px n ext size first0 nr lp first written : Nat} {S : LS} {bs : List (List Nat)} {i : Nat} (hw : WN n ext size nr) (hnr : (nr : Int) = ringN (n : Int)) (h : RgS w0 x px n ext size first0 nr S lp first written bs true i) :
    Calls Try.prog 24 #[.pointer (some ⟨px, 0, none⟩)] x (AgP w0 px n ext size first0 nr ((first + written) % 4294967296) bs i) := by
  obtain ⟨p, bm, kv, rv, iv, gv, vs, hd, hs, hl⟩ := h
  have hbl := hs.len
  have hn1 := hw.n1
  have HG := hide (given_any (px := px) (w := x.drew) ⟨_, hd.row, rfl⟩ (hd.rg.below ((Below.refl _ _).drew)) (by omega) (by omega) hl)
  have HRP : Hid (∀ z v', RSl z v' bs → Calls Try.prog 9 #[.int .i64 (n : Int), .int .i64 (ext : Int), v'] z fun e z' => (∃ g, e = .returned (.tuple #[.slice (some ⟨g, 0, none⟩) n n, .int .u32 (((first + written) % 4294967296 : Nat) : Int), .int .i64 0])) ∧ Below z.heap.size z z') := hide fun z v' hv => by
    refine (replay_any n ext hv hw.s1 hw.s2 hw.e1 hw.e2 (by rw [hbl]; exact hnr)).mono ?_
    rintro e z' ⟨res, hr, hb, hm⟩
    rw [hs.replay hr] at hm
    obtain ⟨g, -, rfl, -⟩ := hm
    exact ⟨⟨g, rfl⟩, hb⟩
  have HRS : Hid (∀ z v' vs', RgV z x.drew.heap.size v' bs vs' → RSl z v' bs) := hide fun z v' vs' hv => hv.sl (by omega)
  have HNW := hide fun z => logNew_any z n ext size ((first + written) % 4294967296) hw.s1 hw.s2 hw.e1 hw.e2 hw.sz
  have HNU := hide fun z => num_any z 0
  have hNlt : (first + written) % 4294967296 < 4294967296 := Nat.mod_lt _ (by decide)
  have HC : Hid (∀ z, Below x.heap.size x z → z.cell? ⟨px, 1, none⟩ = some (.int .i64 (n : Int)) ∧ z.cell? ⟨px, 2, none⟩ = some (.int .i64 (ext : Int)) ∧ z.cell? ⟨px, 3, none⟩ = some (.int .i64 (size : Int))) := hide fun z hz => by
    have hr := (hd.below hz).row
    exact ⟨cell_of_row _ _ _ _ _ _ hr, cell_of_row _ _ _ _ _ _ hr, cell_of_row _ _ _ _ _ _ hr⟩
  have HFIN : Hid (∀ z z1 lp', Below x.heap.size x z → Below z.heap.size z z1 → LgR z1 lp' (z.heap.size + 1) z.heap.size (.slice none 0 0) (.slice none 0 0) (.slice none 0 0) ⟨n, [], [], [], []⟩ ext size ((first + written) % 4294967296) 0 → z.heap.size ≤ lp' → ((∃ u, z1.cell? ⟨px, 0, none⟩ = some u) ∧ z1.frozen? ⟨px, 0, none⟩ = false) ∧ ((∃ u, (z1.setCell ⟨px, 0, none⟩ (.pointer (some ⟨lp', 0, none⟩))).cell? ⟨px, 6, none⟩ = some u) ∧ (z1.setCell ⟨px, 0, none⟩ (.pointer (some ⟨lp', 0, none⟩))).frozen? ⟨px, 6, none⟩ = false) ∧ AgP w0 px n ext size first0 nr ((first + written) % 4294967296) bs i (.returned (.bool true)) ((z1.setCell ⟨px, 0, none⟩ (.pointer (some ⟨lp', 0, none⟩))).setCell ⟨px, 6, none⟩ (.bool false))) := hide fun z z1 lp' hb hb1 hl1 hlp => by
    have hz := hd.below hb
    have hz1 := hz.below hb1
    have hr2 := Go.heap_setCell_same _ _ 0 _ 45 (.pointer (some ⟨lp', 0, none⟩)) hz1.row
    exact ⟨⟨⟨_, cell_of_row _ _ _ _ _ _ hz1.row⟩, frozen_of_row _ _ _ _ 45 hz1.row⟩, ⟨⟨_, cell_of_row _ _ _ _ _ _ hr2⟩, frozen_of_row _ _ _ _ 45 hr2⟩, rfl, lp', _, _, _, _, _, _, _, hz.newLog hw.s1 hw.s2 hb1 hl1 hlp, hs.again, hl⟩
  have q2 := ptrL'
  clear hd hs hl hbl hn1 hw hnr
  generalize (first + written) % 4294967296 = NN at *
  have d0 := HC.out x (Below.refl _ _)
  obtain ⟨d1, d2, d3⟩ := d0
  go_enter Try.func24, Try.ntmps24
  go_wp2_with fail
  go_region_held3 (fun z => z.cell? ⟨px, 1, none⟩ = some (.int .i64 (n : Int)) ∧ z.cell? ⟨px, 2, none⟩ = some (.int .i64 (ext : Int))) (first | exact ⟨d1, d2⟩ | exact ⟨g1, g2⟩ | exact ⟨k1, k2⟩)
    (first
      | (go_at_call 21; refine HG.out.mono ?_; rintro e z ⟨v', vs', rfl, hv', hbz⟩; obtain ⟨g1, g2, g3⟩ := HC.out z ⟨hbz.os, hbz.tape, hbz.output, hbz.size, hbz.block⟩; have HBZ : Hid (Below x.heap.size x z) := hide ⟨hbz.os, hbz.tape, hbz.output, hbz.size, hbz.block⟩; have HRZ := hide (HRP.out z v' (HRS.out z v' vs' hv')); clear hv' hbz HG)
      | (go_at_call 9; refine HRZ.out.mono ?_; rintro e z2 ⟨⟨gq, rfl⟩, hb2⟩; have HB2 := hide (HBZ.out.trans (hb2.mono HBZ.out.size)); obtain ⟨k1, k2, k3⟩ := HC.out z2 HB2.out; clear hb2 HRZ))
  clear d1 d2 d3 g1 g2 g3
  go_wp2_with (go_at_call 12; refine (HNU.out _).mono ?_; rintro e z2 ⟨rfl, rfl⟩)
  have HDR : Hid (Below x.heap.size x z2.drew) := hide HB2.out.drew
  go_region_held3 (fun z => z.cell? ⟨px, 1, none⟩ = some (.int .i64 (n : Int)) ∧ z.cell? ⟨px, 2, none⟩ = some (.int .i64 (ext : Int)) ∧ z.cell? ⟨px, 3, none⟩ = some (.int .i64 (size : Int))) (first | exact ⟨k1, k2, k3⟩ | exact ⟨m1, m2, m3⟩)
    ((go_at_call 29; refine (HNW.out _).mono ?_; rintro e z5 ⟨lp', hlp, rfl, hlg, hb5⟩; obtain ⟨m1, m2, m3⟩ := HC.out z5 (HDR.out.trans (hb5.mono HDR.out.size)); have HNB := hide (number_any hlg (by omega)); have HLG := hide hlg; have HB5 := hide hb5; have HLP := hide hlp; clear hlg hb5 hlp))
  rw [show ((NN + 0) % 4294967296 : Nat) = NN from by omega] at HNB
  clear k1 k2 k3 m1 m2 m3
  go_wp2_with (first
    | (go_at_call 12; refine (HNU.out _).mono ?_; rintro e z5 ⟨rfl, rfl⟩)
    | (go_at_call 17; refine HNB.out.mono ?_; rintro e z6 ⟨rfl, hq⟩; obtain ⟨⟨⟨u0, y0⟩, f0⟩, ⟨⟨u6, y6⟩, f6⟩, hag⟩ := HFIN.out _ z6 lp' HDR.out (HB5.out.trans (hq.2.mono HB5.out.size)) (HLG.out.below hq.2) HLP.out; have HAG := hide hag; clear hag hq))
  go_ret
  exact HAG.out
end Go.Proofs.Ytlkccencilhacaa
namespace Go.Proofs.Ytlkccencilhacaa
open Go.RowKit Go.Sort
open Num
set_option linter.unusedVariables false
set_option linter.unusedSimpArgs false
set_option maxRecDepth 20000

section
variable {w0 z : World} {px n ext size first0 nr lp first written : Nat} {S : LS} {bs : List (List Nat)} {wrote : Bool} {i : Nat}
theorem RgS.below {y : World} (h : RgS w0 z px n ext size first0 nr S lp first written bs wrote i) (hb : Below z.heap.size z y) : RgS w0 y px n ext size first0 nr S lp first written bs wrote i := by
  obtain ⟨p, bm, kv, rv, iv, gv, vs, hd, hs, hl⟩ := h
  exact ⟨p, bm, kv, rv, iv, gv, vs, hd.below hb, hs, hl⟩
theorem RgS.cells (h : RgS w0 z px n ext size first0 nr S lp first written bs wrote i) : z.cell? ⟨px, 0, none⟩ = some (.pointer (some ⟨lp, 0, none⟩)) ∧ z.cell? ⟨px, 6, none⟩ = some (.bool wrote) := by
  obtain ⟨p, bm, kv, rv, iv, gv, vs, hd, hs, hl⟩ := h
  exact ⟨cell_of_row _ _ _ _ _ _ hd.row, cell_of_row _ _ _ _ _ _ hd.row⟩
theorem RgS.be (h : RgS w0 z px n ext size first0 nr S lp first written bs wrote i) : Below w0.heap.size w0 z := by
  obtain ⟨p, bm, kv, rv, iv, gv, vs, hd, hs, hl⟩ := h
  exact hd.be
theorem LS.Ok.up {S : LS} {M M' : Nat} (h : S.Ok M) (hm : M ≤ M') : S.Ok M' := ⟨h.s1, h.s2, h.kl, h.rl, h.kd, h.id, h.im, h.kb, fun r hr => Nat.le_trans (h.rb r hr) hm, h.me⟩
/-- one step on -/
theorem RgS.up (h : RgS w0 z px n ext size first0 nr S lp first written bs wrote i) : RgS w0 z px n ext size first0 nr S lp first written bs wrote (i + 1) := by
  obtain ⟨p, bm, kv, rv, iv, gv, vs, hd, hs, hl⟩ := h
  exact ⟨p, bm, kv, rv, iv, gv, vs, ⟨hd.row, hd.lg, hd.ok.up (by omega), hd.sl, hd.rg, hd.be, hd.lo, hd.po, by have := hd.wr; omega⟩, hs, hl⟩
/-- behind a Begin that gave a record, ahead of its being laid -/
def RgM (w0 z : World) (px n ext size first0 nr : Nat) (S' : LS) (lp first written : Nat) (bs : List (List Nat)) (wrote : Bool) (rec : List Nat) (i : Nat) : Prop := ∃ p bm kv rv iv gv vs, RgD w0 z px lp p bm kv rv iv S' n ext size first0 first (written + 1) gv vs bs wrote (i + 1) ∧ WS n ext size nr S' first (written + 1) (bs.set ((first + written) % 4294967296 % nr) rec) true ∧ bs.length = nr ∧ rec.length = size ∧ ∀ k, (bs.getD k []).length ≤ 1024
def BgS (w0 : World) (px n ext size first0 nr : Nat) (S : LS) (lp first written : Nat) (bs : List (List Nat)) (wrote : Bool) (i : Nat) (e : Ending) (z' : World) : Prop :=
  (∃ c er S', e = .returned (.tuple #[.agg c, .slice none 0 0, .int .i64 er]) ∧ RgS w0 z' px n ext size first0 nr S' lp first written bs wrote (i + 1)) ∨
  ∃ c g S' rec, e = .returned (.tuple #[.agg c, .slice (some ⟨g, 0, none⟩) size size, .int .i64 0]) ∧ BSl z' (.slice (some ⟨g, 0, none⟩) size size) rec ∧ RgM w0 z' px n ext size first0 nr S' lp first written bs wrote rec i
theorem sBegin (hw : WN n ext size nr) (h : RgS w0 z px n ext size first0 nr S lp first written bs wrote i) (hi : i ≤ 1000000000000000) (x : Int) : Calls Try.prog 18 #[.pointer (some ⟨lp, 0, none⟩), .int .i64 x] z (BgS w0 px n ext size first0 nr S lp first written bs wrote i) := by
  obtain ⟨p, bm, kv, rv, iv, gv, vs, hd, hs, hl⟩ := h
  have hwr := hd.wr
  have hsz := hw.sz.ge
  refine (begin_any hd.lg hd.ok (by omega) (by omega) hw.e2 hw.sz x).mono ?_
  rintro e z' ⟨S', written', r, v, kv', rv', iv', rfl, hr, hrc, hl2, ho2, hc2, hloc⟩
  rcases hr with ⟨-, rfl, rfl, rfl⟩ | ⟨-, slot, old, gone, er, hg, rfl, rfl⟩ | ⟨hx, slot, old, gone, hg, rfl, rfl⟩
  · simp only [RcO] at hrc
    subst hrc
    exact .inl ⟨_, _, S', rfl, p, bm, kv', rv', iv', gv, vs, hd.turn hl2 ho2 rfl hc2 hloc (by omega), hs, hl⟩
  · simp only [RcO] at hrc
    subst hrc
    have hks : S'.ks = S.ks ∧ S'.slots = S.slots := by
      rcases hg with ⟨s, -, rfl, -⟩ | ⟨-, -, -, -, e, -⟩ | ⟨-, -, s, r, o, -, -, -, -, e, -⟩ | ⟨-, -, -, rfl, -⟩
      · exact ⟨rfl, rfl⟩
      · cases e
      · cases e
      · exact ⟨rfl, rfl⟩
    exact .inl ⟨_, _, S', rfl, p, bm, kv', rv', iv', gv, vs, hd.turn hl2 ho2 hks.2 hc2 hloc (by omega), hs.same hks.1 hks.2, hl⟩
  · obtain ⟨g, rfl, hrow, -, -⟩ := hrc
    have hlen : (recOf S' size first written (slot : Int) x (if gone then old else -1)).length = size := recOf_len (by omega)
    have hlt : ∀ b ∈ recOf S' size first written (slot : Int) x (if gone then old else -1), b < 256 := by
      rw [recOf_rc _ _ _ _ _ _ _ ho2.s1 ho2.s2]
      exact bytes_lt _ _
    refine .inr ⟨_, g, S', _, by rw [hlen], bsl_row hrow hlen (by unfold maxLen; omega) hlt, p, bm, kv', rv', iv', gv, vs, hd.turn hl2 ho2 hg.slots hc2 hloc (by omega), hs.beg hw hd.ok hd.sl hx hg, hs.len, hlen, hl⟩
def LyS (w0 : World) (px n ext size first0 nr : Nat) (S' : LS) (lp first written : Nat) (bs : List (List Nat)) (i : Nat) (e : Ending) (z' : World) : Prop := e = .returned (.bool true) ∧ RgS w0 z' px n ext size first0 nr S' lp first (written + 1) bs true (i + 1)
theorem sLay {S' : LS} {rec : List Nat} (hw : WN n ext size nr) (h : RgM w0 z px n ext size first0 nr S' lp first written bs wrote rec i) (v : Value) (hv : BSl z v rec) : Calls Try.prog 19 #[.pointer (some ⟨px, 0, none⟩), v, .int .u32 (((first + written) % 4294967296 : Nat) : Int)] z (LyS w0 px n ext size first0 nr S' lp first written (bs.set ((first + written) % 4294967296 % nr) rec) i) := by
  obtain ⟨p, bm, kv, rv, iv, gv, vs, hd, hs, hb, hrl, hl⟩ := h
  have hsz := hw.sz.ge
  have hn1 := hw.n1
  refine (xlay_any hd (by omega) (by omega) hsz.2 ((first + written) % 4294967296) (Nat.mod_lt _ (by decide)) v rec hv hrl).mono ?_
  rintro e z' ⟨rfl, vs', hd'⟩
  rw [hb] at hd'
  refine ⟨rfl, p, bm, kv, rv, iv, gv, vs', hd', hs, fun k => ?_⟩
  by_cases e : (first + written) % 4294967296 % nr = k
  · subst e
    by_cases hk : (first + written) % 4294967296 % nr < bs.length
    · simp [List.getD, hk]; omega
    · simp [List.getD, hk]
  · have : (bs.set ((first + written) % 4294967296 % nr) rec).getD k [] = bs.getD k [] := by simp [List.getD, e]
    rw [this]; exact hl k
theorem sNum (h : RgS w0 z px n ext size first0 nr S lp first written bs wrote i) (hi : i ≤ 1000000000000000) : Calls Try.prog 17 #[.pointer (some ⟨lp, 0, none⟩)] z fun e z' => e = .returned (.int .u32 (((first + written) % 4294967296 : Nat) : Int)) ∧ Qt z z' := by
  obtain ⟨p, bm, kv, rv, iv, gv, vs, hd, hs, hl⟩ := h
  have := hd.wr
  exact number_any hd.lg (by omega)
def EnS (w0 : World) (px n ext size first0 nr : Nat) (lp first written : Nat) (bs : List (List Nat)) (wrote : Bool) (i : Nat) (e : Ending) (z' : World) : Prop := ∃ er S', e = .returned (.int .i64 er) ∧ RgS w0 z' px n ext size first0 nr S' lp first written bs wrote (i + 1)
theorem sEnd (h : RgS w0 z px n ext size first0 nr S lp first written bs wrote i) (hi : i ≤ 1000000000000000) {x : Int} (hx : i64ok x) : Calls Try.prog 20 #[.pointer (some ⟨lp, 0, none⟩), .int .i64 x] z (EnS w0 px n ext size first0 nr lp first written bs wrote i) := by
  have h' := h
  obtain ⟨p, bm, kv, rv, iv, gv, vs, hd, hs, hl⟩ := h'
  have hwr := hd.wr
  refine (lEnd_any hd.lg hd.ok (by omega) hx).mono ?_
  rintro e z' (⟨-, rfl, rfl⟩ | ⟨-, S', er, iv', hp, rfl, hl2, ho2, hc2, hloc⟩)
  · exact ⟨_, S, rfl, h.up⟩
  · have hks : S'.ks = S.ks ∧ S'.slots = S.slots := by
      rcases hp with ⟨-, rfl, -⟩ | ⟨s, r, -, -, rfl, -⟩ <;> exact ⟨rfl, rfl⟩
    refine ⟨_, S', rfl, p, bm, kv, rv, iv', gv, vs, hd.turn hl2 (ho2.up (by omega)) hks.2 (hc2.mono fun b _ e => .inr e) (fun b e => ?_) (by omega), hs.same hks.1 hks.2, hl⟩
    rcases e with e | e
    · exact .inl (.inl e)
    · rcases hloc b e with q | q
      · exact .inl (.inr q)
      · exact .inr q
end
end Go.Proofs.Ytlkccencilhacaa
namespace Go.Proofs.Ytlkccencilhacaa
open Go.RowKit Go.Sort
open Num
set_option linter.unusedVariables false
set_option linter.unusedSimpArgs false
set_option maxRecDepth 20000

set_option maxHeartbeats 1000000 in
theorem sameIntsS_any {w : World} {u v : Value} {l : List Int} (hu : w.ownsRow 0 3 1 u l.length (l.map iV)) (hv : w.ownsRow 0 3 1 v l.length (l.map iV)) : Calls Try.prog 11 #[u, v] w fun e w' => e = .returned (.bool true) ∧ ∃ m, w' = w.drewN m := by
  obtain ⟨a1, c1, rfl, b1, b2⟩ := rowForm hu
  obtain ⟨a2, c2, rfl, b3, b4⟩ := rowForm hv
  unfold maxLen at b2 b4
  have one : ∀ (a : Option Addr) (c : Nat), w.ownsRow 0 3 1 (.slice a l.length c) l.length (l.map iV) → ∀ j, j < l.length → ∃ g, a = some ⟨g, 0, none⟩ ∧ w.cell? ⟨g, j, none⟩ = some (.int .i64 (l.getD j 0)) := fun a c h j hj => by
    have h' : w.ownsRow 0 3 1 (.slice a l.length c) (l.map iV).length (l.map iV) := by rw [List.length_map]; exact h
    obtain ⟨g, cap, e, hc⟩ := rowCell h' (j := j) (x := iV (l.getD j 0)) (by rw [List.getElem?_map, List.getElem?_eq_getElem hj]; simp [List.getD, hj])
    simp only [Value.slice.injEq] at e
    exact ⟨g, e.1, hc⟩
  have HC : Hid (∀ j, j < l.length → ∃ g g', a1 = some ⟨g, 0, none⟩ ∧ a2 = some ⟨g', 0, none⟩ ∧ w.cell? ⟨g, j, none⟩ = some (.int .i64 (l.getD j 0)) ∧ w.cell? ⟨g', j, none⟩ = some (.int .i64 (l.getD j 0))) := hide fun j hj => by
    obtain ⟨g, e, hc⟩ := one _ _ hu j hj
    obtain ⟨g', e', hc'⟩ := one _ _ hv j hj
    exact ⟨g, g', e, e', hc, hc'⟩
  clear hu hv one
  generalize l.length = n at *
  go_enter Try.func11, Try.ntmps11
  go_wp2_with fail
  go_loopw [5] (fun x wr => ∃ j : Nat, j ≤ n ∧ x = .int .i64 (j : Int) ∧ (∃ m, wr = w.drewN m)) (fun x _ => n - (intOf x).toNat)
  case atStart => exact ⟨0, Nat.zero_le _, rfl, ⟨0, rfl⟩⟩
  case round =>
    obtain ⟨j, hj, rfl, ⟨m0, rfl⟩⟩ := hrel
    by_cases hlt : j < n
    · obtain ⟨g, g', rfl, rfl, d1, d2⟩ := HC.out j hlt
      clear HC
      generalize l.getD j 0 = x at *
      have hne : ((x : Int) != (x : Int)) = false := by simp
      go_wp2_with fail
      go_quiet (fail)
      go_wp2_with fail
      go_roundw
      case rel => exact ⟨j + 1, by omega, by go_num, ⟨_, rfl⟩⟩
      case measure => simp [intOf]; omega
    · go_wp2_with fail
      go_ret
      exact ⟨rfl, _, rfl⟩
theorem row_ints {x : World} {g : Nat} {l : List Int} (h : x.heap[g]? = some (.cells (ints l) 3 (0, 0))) (hl : l.length ≤ 16) : x.ownsRow 0 3 1 (.slice (some ⟨g, 0, none⟩) l.length l.length) l.length (l.map iV) :=
  ⟨by simp, .inr ⟨g, l.length, ints l, rfl, Nat.zero_le _, h, Nat.le_refl _, by unfold maxLen; omega, by simp [ints], by simp only [ints]; exact List.take_of_length_le (by simp)⟩⟩
section
variable {w0 z : World} {px n ext size first0 nr lp first written : Nat} {S : LS} {bs : List (List Nat)} {wrote : Bool} {i : Nat}
theorem sGiven (hw : WN n ext size nr) (h : RgS w0 z px n ext size first0 nr S lp first written bs wrote i) : Calls Try.prog 21 #[.pointer (some ⟨px, 0, none⟩)] z fun e z' => ∃ v', e = .returned v' ∧ RSl z' v' bs ∧ Below z.heap.size z z' := by
  obtain ⟨p, bm, kv, rv, iv, gv, vs, hd, hs, hl⟩ := h
  have hbl := hs.len
  have hn1 := hw.n1
  refine (given_any ⟨_, hd.row, rfl⟩ hd.rg (by omega) (by omega) hl).mono ?_
  rintro e z' ⟨v', vs', rfl, hv, hb⟩
  exact ⟨v', rfl, hv.sl (by omega), hb⟩
theorem sReplay (hw : WN n ext size nr) (hnr : (nr : Int) = ringN (n : Int)) (hs : WS n ext size nr S first written bs true) (hsl : S.slots = n) {v : Value} (hv : RSl z v bs) : Calls Try.prog 9 #[.int .i64 (n : Int), .int .i64 (ext : Int), v] z fun e z' => ∃ g, e = .returned (.tuple #[.slice (some ⟨g, 0, none⟩) n n, .int .u32 (((first + written) % 4294967296 : Nat) : Int), .int .i64 0]) ∧ z'.heap[g]? = some (.cells (ints (rowL S)) 3 (0, 0)) ∧ Below z.heap.size z z' := by
  refine (replay_any n ext hv hw.s1 hw.s2 hw.e1 hw.e2 (by rw [hs.len]; exact hnr)).mono ?_
  rintro e z' ⟨res, hr, hb, hm⟩
  rw [hs.replay hr] at hm
  obtain ⟨g, -, rfl, hg, -⟩ := hm
  exact ⟨g, rfl, hg, hb⟩
theorem sSlots (h : RgS w0 z px n ext size first0 nr S lp first written bs wrote i) : Calls Try.prog 25 #[.pointer (some ⟨lp, 0, none⟩)] z fun e z' => e = .returned (.slice (some ⟨z.heap.size, 0, none⟩) n n) ∧ z'.heap[z.heap.size]? = some (.cells (ints (rowL S)) 3 (0, 0)) ∧ Below z.heap.size z z' := by
  obtain ⟨p, bm, kv, rv, iv, gv, vs, hd, hs, hl⟩ := h
  refine (slots_any hd.lg hd.ok).mono ?_
  rintro e z' ⟨zs, h1, rfl, h2, h3, h4⟩
  rw [hd.sl]
  refine ⟨rfl, ?_, h4⟩
  have : zs = rowL S := h3
  rw [← this]; exact h2
/-- Begin's answer in one form -/
def BgU (w0 : World) (px n ext size first0 nr : Nat) (S : LS) (lp first written : Nat) (bs : List (List Nat)) (wrote : Bool) (i : Nat) (e : Ending) (z' : World) : Prop :=
  ∃ c0 c1 c2 a k cc er, e = .returned (.tuple #[.agg #[.int .i64 c0, .int .i64 c1, .int .i64 c2], .slice a k cc, .int .i64 er]) ∧ ((k = 0 ∧ ∃ S', RgS w0 z' px n ext size first0 nr S' lp first written bs wrote (i + 1)) ∨ (k = size ∧ er = 0 ∧ ∃ S' rec, BSl z' (.slice a k cc) rec ∧ RgM w0 z' px n ext size first0 nr S' lp first written bs wrote rec i))
theorem sBeginU (hw : WN n ext size nr) (h : RgS w0 z px n ext size first0 nr S lp first written bs wrote i) (hi : i ≤ 1000000000000000) (x : Int) : Calls Try.prog 18 #[.pointer (some ⟨lp, 0, none⟩), .int .i64 x] z (BgU w0 px n ext size first0 nr S lp first written bs wrote i) := by
  obtain ⟨p, bm, kv, rv, iv, gv, vs, hd, hs, hl⟩ := h
  have hwr := hd.wr
  have hsz := hw.sz.ge
  refine (begin_any hd.lg hd.ok (by omega) (by omega) hw.e2 hw.sz x).mono ?_
  rintro e z' ⟨S', written', r, v, kv', rv', iv', rfl, hr, hrc, hl2, ho2, hc2, hloc⟩
  rcases hr with ⟨-, rfl, rfl, rfl⟩ | ⟨-, slot, old, gone, er, hg, rfl, rfl⟩ | ⟨hx, slot, old, gone, hg, rfl, rfl⟩
  · simp only [RcO] at hrc
    subst hrc
    exact ⟨_, _, _, _, _, _, _, rfl, .inl ⟨rfl, S', p, bm, kv', rv', iv', gv, vs, hd.turn hl2 ho2 rfl hc2 hloc (by omega), hs, hl⟩⟩
  · simp only [RcO] at hrc
    subst hrc
    have hks : S'.ks = S.ks ∧ S'.slots = S.slots := by
      rcases hg with ⟨s, -, rfl, -⟩ | ⟨-, -, -, -, e, -⟩ | ⟨-, -, s, r, o, -, -, -, -, e, -⟩ | ⟨-, -, -, rfl, -⟩
      · exact ⟨rfl, rfl⟩
      · cases e
      · cases e
      · exact ⟨rfl, rfl⟩
    exact ⟨_, _, _, _, _, _, _, rfl, .inl ⟨rfl, S', p, bm, kv', rv', iv', gv, vs, hd.turn hl2 ho2 hks.2 hc2 hloc (by omega), hs.same hks.1 hks.2, hl⟩⟩
  · obtain ⟨g, rfl, hrow, -, -⟩ := hrc
    have hlen : (recOf S' size first written (slot : Int) x (if gone then old else -1)).length = size := recOf_len (by omega)
    have hlt : ∀ b ∈ recOf S' size first written (slot : Int) x (if gone then old else -1), b < 256 := by
      rw [recOf_rc _ _ _ _ _ _ _ ho2.s1 ho2.s2]
      exact bytes_lt _ _
    exact ⟨_, _, _, _, _, _, _, rfl, .inr ⟨hlen, rfl, S', _, by rw [hlen]; exact bsl_row hrow hlen (by unfold maxLen; omega) hlt, p, bm, kv', rv', iv', gv, vs, hd.turn hl2 ho2 hg.slots hc2 hloc (by omega), hs.beg hw hd.ok hd.sl hx hg, hs.len, hlen, hl⟩⟩
theorem RgM.below {S' : LS} {rec : List Nat} {y : World} (h : RgM w0 z px n ext size first0 nr S' lp first written bs wrote rec i) (hb : Below z.heap.size z y) : RgM w0 y px n ext size first0 nr S' lp first written bs wrote rec i := by
  obtain ⟨p, bm, kv, rv, iv, gv, vs, hd, hr⟩ := h
  exact ⟨p, bm, kv, rv, iv, gv, vs, hd.below hb, hr⟩
theorem RgM.be {S' : LS} {rec : List Nat} (h : RgM w0 z px n ext size first0 nr S' lp first written bs wrote rec i) : Below w0.heap.size w0 z := by
  obtain ⟨p, bm, kv, rv, iv, gv, vs, hd, hr⟩ := h
  exact hd.be
theorem RgS.sl (h : RgS w0 z px n ext size first0 nr S lp first written bs wrote i) : S.slots = n ∧ WS n ext size nr S first written bs wrote := by
  obtain ⟨p, bm, kv, rv, iv, gv, vs, hd, hs, hl⟩ := h
  exact ⟨hd.sl, hs⟩
end
theorem there_new3 (w : World) (Z : Array Value) (t : TypeId) (n : Nat) (h : n ≤ Z.size) : (w.alloc (.cells Z t)).there w.heap.size 0 n := fun j hj => by
  have hg := Go.heap_alloc_new w (.cells Z t)
  rw [Nat.zero_add]
  exact ⟨by rw [cell_of_row _ _ _ _ _ _ hg, Array.getElem?_eq_getElem (by omega)]; rfl, frozen_of_row _ _ _ _ t hg⟩
theorem there_keep3 {W x : World} {g n : Nat} {Z : Array Value} {t : TypeId} (hr : x.heap[g]? = some (.cells Z t (0, 0))) (h : n ≤ Z.size) : x.there g 0 n := fun j hj => by
  rw [Nat.zero_add]
  exact ⟨by rw [cell_of_row _ _ _ _ _ _ hr, Array.getElem?_eq_getElem (by omega)]; rfl, frozen_of_row _ _ _ _ t hr⟩
end Go.Proofs.Ytlkccencilhacaa
namespace Go.Proofs.Ytlkccencilhacaa
open Go.RowKit Go.Sort
open Num
set_option linter.unusedVariables false
set_option linter.unusedSimpArgs false
set_option maxRecDepth 20000

set_option maxHeartbeats 1000000 in
theorem copiedW_any (v : Value) (l : List Nat) (w : World) (h : BSl w v l) (hr : l.length ≤ 140737488351232) :
    Calls Try.prog 8 #[v] w fun e w' => ∃ v', e = .returned v' ∧ UB w' w.heap.size v' l ∧ Below w.heap.size w w' := by
  obtain ⟨i0, hi, hz0, hz1, hz2⟩ := info_parts info_u8
  have hmade : (w.alloc (.cells #[] 5)).ownsRow 0 5 1 (.slice (some ⟨w.heap.size, 0, none⟩) 0 0) 0 [] := World.ownsRow_made w #[] 0 (Nat.zero_le _) (by unfold maxLen; omega) rfl
  have h' := h
  obtain ⟨a, cap, rfl, hl, hm, hn, hb, hcell⟩ := h'
  cases a with
  | none =>
    have hc : cap = 0 := hn rfl
    have hl0 : l = [] := List.eq_nil_of_length_eq_zero (by omega)
    subst hl0
    subst hc
    clear hcell hn
    have hmade2 : (w.alloc (.cells #[] 5)).ownsRow w.heap.size 5 1 (.slice (some ⟨w.heap.size, 0, none⟩) 0 0) 0 [] := World.ownsRow_made w #[] 0 (Nat.le_refl _) (by unfold maxLen; omega) rfl
    go_enter Try.func8, Try.ntmps8
    go_wp2
    go_ret
    exact ⟨_, rfl, ⟨hmade2, by simp⟩, (Below.refl _ _).alloc (Nat.le_refl _) _⟩
  | some ad =>
    rcases Nat.eq_zero_or_pos l.length with h0 | hpos
    · have hl0 : l = [] := List.eq_nil_of_length_eq_zero h0
      subst hl0
      clear hcell hn
      have hmade2 : (w.alloc (.cells #[] 5)).ownsRow w.heap.size 5 1 (.slice (some ⟨w.heap.size, 0, none⟩) 0 0) 0 [] := World.ownsRow_made w #[] 0 (Nat.le_refl _) (by unfold maxLen; omega) rfl
      go_enter Try.func8, Try.ntmps8
      go_wp2
      go_ret
      exact ⟨_, rfl, ⟨hmade2, by simp⟩, (Below.refl _ _).alloc (Nat.le_refl _) _⟩
    · have hnews := (h.below ((Below.refl _ _).alloc (Nat.le_refl _) (.cells #[] 5))).newsV
      have hone := byV_one l
      have HB : Hid (∀ b ∈ l, b < 256) := hb
      have HFIN : Hid (∀ v' w1, w1.ownsRow 0 5 1 v' l.length (l.map byV) → UponC (w.alloc (.cells #[] 5)) w1 (.slice (some ⟨w.heap.size, 0, none⟩) 0 0) v' → UB w1 w.heap.size v' l ∧ Below w.heap.size w w1) := hide fun v' w1 ho hu => by
        have hb0 := (Below.refl w.heap.size w).alloc (Nat.le_refl _) (.cells #[] 5)
        refine ⟨⟨⟨ho.1, ?_⟩, hb⟩, ?_⟩
        · rcases ho.2 with h0 | ⟨g, cap, cur, e, hg, r⟩
          · exact .inl h0
          · refine .inr ⟨g, cap, cur, e, ?_, r⟩
            rcases hu.loc g (by rw [e]; rfl) with e2 | e2
            · simp [Value.ownBlock] at e2; omega
            · rw [e2]; simp
        · obtain ⟨e1, e2, e3⟩ := hu.same
          refine ⟨e1, e2, e3, Nat.le_trans (by simp) hu.size, fun b hb => ?_⟩
          rw [hu.block b (by simp; omega) (by simp [Value.ownBlock]; omega)]
          exact hb0.block b hb
      clear hn hcell h hb
      have hnl : (l.map byV).length = l.length * 1 := by simp
      go_enter Try.func8, Try.ntmps8
      go_wp2_with (at_builtin; refine wpList_appendC _ rfl (.tmp 3) (.tmp 4) 23 rfl 5 i0 (.int .u8 0) 1 1 Try.underlying23 hi hz0 hz1 hz2 rfl (by decide) _ _ _ rfl hmade ad l.length cap (l.map byV) rfl hnl hpos hnews hone (by unfold maxLen; omega) (by omega) ?_)
      intro v' w1 hown hg
      have HF := hide (HFIN.out v' w1 (by simpa using hown) hg)
      clear hnews hone hnl hmade hown hg
      go_wp2
      go_ret
      exact ⟨_, rfl, HF.out.1, HF.out.2⟩
/-- the marks -/
def T8 : List Nat := [1, 2, 3, 4, 5, 6, 7, 8]
theorem UB.push {x w6 : World} {lo : Nat} {v v6 : Value} {l : List Nat} {o : Obj} (h : UB x lo v l) (hlo : lo ≤ x.heap.size) (ho : w6.ownsRow 0 5 1 v6 (l.length + 8) (l.map byV ++ T8.map byV)) (hu : UponC (x.alloc o) w6 v v6) : UB w6 lo v6 (l ++ T8) := by
  refine ⟨⟨by have := ho.1; simp [T8] at this ⊢, ?_⟩, fun b hb => ?_⟩
  · rw [List.map_append]
    rcases ho.2 with ⟨e, h0⟩ | ⟨g, cap, cur, e, hg, r⟩
    · omega
    · refine .inr ⟨g, cap, cur, by rw [e]; simp [T8], ?_, by simpa [T8] using r⟩
      rcases hu.loc g (by rw [e]; rfl) with e2 | e2
      · rcases h.row.2 with ⟨e3, _⟩ | ⟨g', cap', cur', e3, hg', _⟩
        · rw [e3] at e2; simp [Value.ownBlock] at e2
        · rw [e3] at e2; simp [Value.ownBlock] at e2; omega
      · rw [e2]; simp; omega
  · rcases List.mem_append.1 hb with hb | hb
    · exact h.lt b hb
    · simp [T8] at hb; omega
theorem UB.own {x : World} {lo : Nat} {v : Value} {l : List Nat} (h : UB x lo v l) {g : Nat} (hg : v.ownBlock = some g) : lo ≤ g := by
  rcases h.row.2 with ⟨e3, _⟩ | ⟨g', cap', cur', e3, hg', _⟩
  · rw [e3] at hg; simp [Value.ownBlock] at hg
  · rw [e3] at hg; simp [Value.ownBlock] at hg; omega
theorem UB.pushB {w x w6 : World} {v v6 : Value} {l : List Nat} {o : Obj} (h : UB x w.heap.size v l) (hb : Below w.heap.size w x) (hu : UponC (x.alloc o) w6 v v6) : Below w.heap.size w w6 := by
  obtain ⟨e1, e2, e3⟩ := hu.same
  have hb0 := hb.alloc hb.size o
  refine ⟨e1.trans hb0.os, e2.trans hb0.tape, e3.trans hb0.output, Nat.le_trans hb0.size hu.size, fun b hb' => ?_⟩
  rw [hu.block b (by have := hb.size; simp; omega) (fun e => by have := h.own e; omega)]
  exact hb0.block b hb'
theorem UB.form8 {x : World} {lo : Nat} {v : Value} {l : List Nat} (h : UB x lo v (l ++ T8)) : ∃ g cap, v = .slice (some ⟨g, 0, none⟩) (l.length + 8) cap ∧ l.length + 8 ≤ cap ∧ cap ≤ maxLen ∧ lo ≤ g := by
  rcases h.row.2 with ⟨e, h0⟩ | ⟨g, cap, cur, e, hg, hh, h1, h2, _⟩
  · simp [T8] at h0
  · rw [show (l ++ T8).length = l.length + 8 by simp [T8]] at e h1
    exact ⟨g, cap, e, h1, h2, hg⟩
theorem UB.cut {x : World} {lo : Nat} {g cap : Nat} {l : List Nat} (h : UB x lo (.slice (some ⟨g, 0, none⟩) (l.length + 8) cap) (l ++ T8)) : BSl x (.slice (some ⟨g, 0, none⟩) l.length cap) l := by
  have hr := h.row
  rw [show (l ++ T8).length = l.length + 8 by simp [T8]] at hr
  obtain ⟨a, c, e, h1, h2⟩ := rowForm hr
  simp only [Value.slice.injEq] at e
  obtain ⟨-, -, rfl⟩ := e
  refine ⟨_, cap, rfl, by omega, h2, fun e => (by cases e), fun b hb => h.lt b (List.mem_append_left _ hb), fun _ => ⟨g, 0, rfl, fun i hi => ?_⟩⟩
  rw [Nat.zero_add, hr.cellAt i (by omega)]
  rw [List.map_append, List.getElem?_append_left (by simpa using hi)]
  simp [byV, hi, List.getD]
/-- what is handed in for a list -/
def oV (u : Value) (X L cap : Nat) : Value := match u with
  | .slice none _ _ => .slice none 0 0
  | _ => .slice (some ⟨X, 0, none⟩) L cap
theorem oV_sl {x : World} {lo : Nat} {g cap : Nat} {l : List Nat} {u : Value} {W : World} (h : UB x lo (.slice (some ⟨g, 0, none⟩) (l.length + 8) cap) (l ++ T8)) (hu : BSl W u l) : BSl x (oV u g l.length cap) l := by
  obtain ⟨a, c, rfl, h1, h2, h3, h4, h5⟩ := hu
  cases a with
  | none =>
    have hl : l = [] := by
      rcases Nat.eq_zero_or_pos l.length with h0 | h0
      · exact List.eq_nil_of_length_eq_zero h0
      · obtain ⟨b, off, e, -⟩ := h5 h0; cases e
    subst hl
    exact ⟨none, 0, rfl, Nat.le_refl _, Nat.zero_le _, fun _ => rfl, by simp, fun h => absurd h (by simp)⟩
  | some ad => exact h.cut
end Go.Proofs.Ytlkccencilhacaa
namespace Go.Proofs.Ytlkccencilhacaa
open Go.RowKit Go.Sort
open Num
set_option linter.unusedVariables false
set_option linter.unusedSimpArgs false
set_option maxRecDepth 20000

/-- the copies with their marks, and what is handed in -/
structure RF (w x : World) (us : List Value) (bs : List (List Nat)) (fv ov : Value) (fs os : List Value) : Prop where
  be : Below w.heap.size w x
  fr : x.ownsRow 0 23 1 fv fs.length fs
  orow : x.ownsRow 0 23 1 ov os.length os
  fo : ∀ b, fv.ownBlock = some b → w.heap.size ≤ b
  oo : ∀ b, ov.ownBlock = some b → w.heap.size ≤ b
  ap : ∀ b, fv.ownBlock = some b → ov.ownBlock ≠ some b
  ef : ∀ k, k < fs.length → ∃ X cap, fs[k]? = some (.slice (some ⟨X, 0, none⟩) ((bs.getD k []).length + 8) cap) ∧ UB x w.heap.size (.slice (some ⟨X, 0, none⟩) ((bs.getD k []).length + 8) cap) (bs.getD k [] ++ T8) ∧ (k < os.length → os[k]? = some (oV (us.getD k undef) X (bs.getD k []).length cap))
theorem RF.below {w x y : World} {us : List Value} {bs : List (List Nat)} {fv ov : Value} {fs os : List Value} (h : RF w x us bs fv ov fs os) (hb : Below x.heap.size x y) : RF w y us bs fv ov fs os := by
  refine ⟨h.be.trans (hb.mono h.be.size), rowKept h.fr fun g hg => ?_, rowKept h.orow fun g hg => ?_, h.fo, h.oo, h.ap, fun k hk => ?_⟩
  · obtain ⟨cs, hc⟩ := rowCells h.fr hg
    exact hb.block _ (Array.getElem?_eq_some_iff.1 hc).1
  · obtain ⟨cs, hc⟩ := rowCells h.orow hg
    exact hb.block _ (Array.getElem?_eq_some_iff.1 hc).1
  · obtain ⟨X, cap, e1, e2, e3⟩ := h.ef k hk
    exact ⟨X, cap, e1, e2.below hb, e3⟩
theorem RF.start (w : World) (us : List Value) (bs : List (List Nat)) : RF w w us bs (.slice none 0 0) (.slice none 0 0) [] [] :=
  ⟨Below.refl _ _, World.ownsRow_nil _ _ _ _, World.ownsRow_nil _ _ _ _, fun b e => by simp [Value.ownBlock] at e, fun b e => by simp [Value.ownBlock] at e, fun b e => by simp [Value.ownBlock] at e, fun k hk => by simp at hk⟩
theorem upon_u8 {x y : World} {v v' : Value} {o : Obj} {n : Nat} {xs : List Value} (hr : x.ownsRow 0 23 1 v n xs) (hu : UponC (x.alloc o) y v v') : ∀ (g : Nat) (cs : Array Value), x.heap[g]? = some (.cells cs 5 (0, 0)) → y.heap[g]? = x.heap[g]? := fun g cs hc => by
  have hlt := (Array.getElem?_eq_some_iff.1 hc).1
  rw [hu.block g (by simp; omega) (fun e => ?_)]
  · exact ((Below.refl x.heap.size x).alloc (Nat.le_refl _) o).block g hlt
  · obtain ⟨ds, hd⟩ := rowCells hr e
    exact neType hc hd (by decide) rfl
theorem upon_bel {w x y : World} {v v' : Value} {o : Obj} (hb : Below w.heap.size w x) (hv : ∀ b, v.ownBlock = some b → w.heap.size ≤ b) (hu : UponC (x.alloc o) y v v') : Below w.heap.size w y := by
  obtain ⟨e1, e2, e3⟩ := hu.same
  have hb0 := hb.alloc hb.size o
  refine ⟨e1.trans hb0.os, e2.trans hb0.tape, e3.trans hb0.output, Nat.le_trans hb0.size hu.size, fun b hb' => ?_⟩
  rw [hu.block b (by have := hb.size; simp; omega) (fun e => by have := hv b e; omega)]
  exact hb0.block b hb'
theorem RF.pushF {w x y : World} {us : List Value} {bs : List (List Nat)} {fv ov fv' : Value} {fs os : List Value} {o : Obj} {X cap n : Nat} {l : List Nat} (h : RF w x us bs fv ov fs os) (hn : fs.length = n) (ho : os.length = n) (hl : bs.getD n [] = l) (hub : UB x w.heap.size (.slice (some ⟨X, 0, none⟩) (l.length + 8) cap) (l ++ T8)) (hr : y.ownsRow 0 23 1 fv' (n + 1) (fs ++ [.slice (some ⟨X, 0, none⟩) (l.length + 8) cap])) (hu : UponC (x.alloc o) y fv fv') : RF w y us bs fv' ov (fs ++ [.slice (some ⟨X, 0, none⟩) (l.length + 8) cap]) os := by
  subst hn hl
  have h8 := upon_u8 h.fr hu
  have kp : ∀ {v : Value} {l : List Nat}, UB x w.heap.size v l → UB y w.heap.size v l := fun hh => hh.keep fun g hg => by
    obtain ⟨cs, hc⟩ := hh.block hg
    exact h8 g cs hc
  refine ⟨upon_bel h.be h.fo hu, by rw [List.length_append]; exact hr, rowKept h.orow fun g hg => ?_, fun b e => ?_, h.oo, fun b e => ?_, fun k hk => ?_⟩
  · obtain ⟨cs, hc⟩ := rowCells h.orow hg
    have hlt := (Array.getElem?_eq_some_iff.1 hc).1
    rw [hu.block g (by simp; omega) (fun e => h.ap g e hg)]
    exact ((Below.refl x.heap.size x).alloc (Nat.le_refl _) o).block g hlt
  · rcases hu.loc b e with h1 | h1
    · exact h.fo b h1
    · have := h.be.size; rw [h1]; simp; omega
  · rcases hu.loc b e with h1 | h1
    · exact h.ap b h1
    · intro e2
      obtain ⟨cs, hc⟩ := rowCells h.orow e2
      have hlt := (Array.getElem?_eq_some_iff.1 hc).1
      rw [h1] at hlt; simp at hlt; omega
  · by_cases e : k < fs.length
    · obtain ⟨X', cap', e1, e2, e3⟩ := h.ef k e
      exact ⟨X', cap', by rw [List.getElem?_append_left e]; exact e1, kp e2, e3⟩
    · have hk0 : k = fs.length := by simp at hk; omega
      subst hk0
      exact ⟨X, cap, by rw [List.getElem?_append_right (Nat.le_refl _), Nat.sub_self]; rfl, kp hub, fun hh => by omega⟩
theorem RF.pushO {w x y : World} {us : List Value} {bs : List (List Nat)} {fv ov ov' v : Value} {fs os : List Value} {o : Obj} {n : Nat} (h : RF w x us bs fv ov fs os) (hn : os.length = n) (hv : n < fs.length → ∀ X cap, fs[n]? = some (.slice (some ⟨X, 0, none⟩) ((bs.getD n []).length + 8) cap) → v = oV (us.getD n undef) X (bs.getD n []).length cap) (hr : y.ownsRow 0 23 1 ov' (n + 1) (os ++ [v])) (hu : UponC (x.alloc o) y ov ov') : RF w y us bs fv ov' fs (os ++ [v]) := by
  subst hn
  have h8 := upon_u8 h.orow hu
  have kp : ∀ {v : Value} {l : List Nat}, UB x w.heap.size v l → UB y w.heap.size v l := fun hh => hh.keep fun g hg => by
    obtain ⟨cs, hc⟩ := hh.block hg
    exact h8 g cs hc
  refine ⟨upon_bel h.be h.oo hu, rowKept h.fr fun g hg => ?_, by rw [List.length_append]; exact hr, h.fo, fun b e => ?_, fun b e e2 => ?_, fun k hk => ?_⟩
  · obtain ⟨cs, hc⟩ := rowCells h.fr hg
    have hlt := (Array.getElem?_eq_some_iff.1 hc).1
    rw [hu.block g (by simp; omega) (fun e => h.ap g hg e)]
    exact ((Below.refl x.heap.size x).alloc (Nat.le_refl _) o).block g hlt
  · rcases hu.loc b e with h1 | h1
    · exact h.oo b h1
    · have := h.be.size; rw [h1]; simp; omega
  · rcases hu.loc b e2 with h1 | h1
    · exact h.ap b e h1
    · obtain ⟨cs, hc⟩ := rowCells h.fr e
      have hlt := (Array.getElem?_eq_some_iff.1 hc).1
      rw [h1] at hlt; simp at hlt; omega
  · obtain ⟨X', cap', e1, e2, e3⟩ := h.ef k hk
    refine ⟨X', cap', e1, kp e2, fun hh => ?_⟩
    by_cases e : k < os.length
    · rw [List.getElem?_append_left e]; exact e3 e
    · have hk0 : k = os.length := by simp at hh; omega
      subst hk0
      rw [List.getElem?_append_right (Nat.le_refl _), Nat.sub_self, hv hk X' cap' e1]; rfl
/-- what is handed in, as a ring -/
theorem RF.rsl {w x : World} {us : List Value} {bs : List (List Nat)} {fv : Value} {g cap n : Nat} {fs os : List Value} {W : World} (h : RF w x us bs fv (.slice (some ⟨g, 0, none⟩) os.length cap) fs os) (hf : fs.length = bs.length) (ho : bs.length ≤ os.length) (hu : ∀ k, k < bs.length → BSl W (us.getD k undef) (bs.getD k [])) : RSl x (.slice (some ⟨g, 0, none⟩) bs.length cap) bs := by
  obtain ⟨a, c, e, h1, h2⟩ := rowForm h.orow
  simp only [Value.slice.injEq] at e
  obtain ⟨-, -, rfl⟩ := e
  refine ⟨g, 0, cap, rfl, by omega, h2, fun i hi => ?_⟩
  obtain ⟨X, c2, e1, e2, e3⟩ := h.ef i (by omega)
  refine ⟨_, ?_, oV_sl e2 (hu i hi)⟩
  rw [Nat.zero_add, h.orow.cellAt i (by omega)]
  exact e3 (by omega)
/-- refused -/
theorem replay_arg (w : World) (v : Value) (slots ext : Int) (h : ¬ (1 ≤ slots ∧ slots ≤ 16 ∧ 1 ≤ ext ∧ ext ≤ 1024)) : Calls Try.prog 9 #[.int .i64 slots, .int .i64 ext, v] w fun e w' => e = .returned (.tuple #[.slice none 0 0, .int .u32 0, .int .i64 1]) ∧ w' = w := by
  have HVS := hide fun x => validSlots_any x slots
  have HVE := hide fun x => vext_any x ext
  by_cases h1 : 1 ≤ slots ∧ slots ≤ 16
  · rw [decide_eq_true h1] at HVS
    rw [decide_eq_false (show ¬ (1 ≤ ext ∧ ext ≤ 1024) from fun hh => h ⟨h1.1, h1.2, hh.1, hh.2⟩)] at HVE
    clear h h1
    go_enter Try.func9, Try.ntmps9
    go_wp2_with (first
      | (go_at_call 34; refine (HVS.out _).mono ?_; rintro e y ⟨rfl, rfl⟩)
      | (go_at_call 35; refine (HVE.out _).mono ?_; rintro e y ⟨rfl, rfl⟩))
    go_ret3
    exact ⟨rfl, rfl⟩
  · rw [decide_eq_false h1] at HVS
    clear h h1
    go_enter Try.func9, Try.ntmps9
    go_wp2_with (first
      | (go_at_call 34; refine (HVS.out _).mono ?_; rintro e y ⟨rfl, rfl⟩)
      | (go_at_call 35; refine (HVE.out _).mono ?_; rintro e y ⟨rfl, rfl⟩))
    go_ret3
    exact ⟨rfl, rfl⟩
theorem replay_size (w : World) (a : Option Addr) (n cap : Nat) (slots ext : Int) (h : 1 ≤ slots ∧ slots ≤ 16 ∧ 1 ≤ ext ∧ ext ≤ 1024) (hn : (n : Int) ≠ ringN slots) : Calls Try.prog 9 #[.int .i64 slots, .int .i64 ext, .slice a n cap] w fun e w' => e = .returned (.tuple #[.slice none 0 0, .int .u32 0, .int .i64 3]) ∧ w' = w := by
  have HVS := hide fun x => validSlots_any x slots
  have HVE := hide fun x => vext_any x ext
  have HRG := hide fun x => ring_any x slots
  rw [decide_eq_true ⟨h.1, h.2.1⟩] at HVS
  rw [decide_eq_true ⟨h.2.2.1, h.2.2.2⟩] at HVE
  generalize ringN slots = rn at *
  have hne : ¬ (n : Int) = rn := hn
  clear h hn
  go_enter Try.func9, Try.ntmps9
  go_wp2_with (first
    | (go_at_call 34; refine (HVS.out _).mono ?_; rintro e y ⟨rfl, rfl⟩)
    | (go_at_call 35; refine (HVE.out _).mono ?_; rintro e y ⟨rfl, rfl⟩)
    | (go_at_call 30; refine (HRG.out _).mono ?_; rintro e y ⟨rfl, rfl⟩))
  go_ret3
  exact ⟨rfl, rfl⟩
theorem rreplay_arg (w : World) (v : Value) (slots ext : Int) (h : ¬ (1 ≤ slots ∧ slots ≤ 16 ∧ 1 ≤ ext ∧ ext ≤ 1024)) : Calls Try.prog 10 #[.int .i64 slots, .int .i64 ext, v] w fun e w' => e = .returned (.tuple #[.slice none 0 0, .int .u32 0, .int .i64 1]) ∧ w' = w := by
  rcases (show slots < 1 ∨ (¬ slots < 1 ∧ 16 < slots) ∨ (¬ slots < 1 ∧ ¬ 16 < slots ∧ ext < 1) ∨ (¬ slots < 1 ∧ ¬ 16 < slots ∧ ¬ ext < 1 ∧ 1024 < ext) by omega) with h1 | ⟨h1, h2⟩ | ⟨h1, h2, h3⟩ | ⟨h1, h2, h3, h4⟩
  all_goals
    clear h
    go_enter Try.func10, Try.ntmps10
    go_wp2_with fail
    go_ret3
    exact ⟨rfl, rfl⟩
theorem rreplay_size (w : World) (a : Option Addr) (n cap : Nat) (slots ext : Int) (h : 1 ≤ slots ∧ slots ≤ 16 ∧ 1 ≤ ext ∧ ext ≤ 1024) (hn : (n : Int) ≠ ringN slots) : Calls Try.prog 10 #[.int .i64 slots, .int .i64 ext, .slice a n cap] w fun e w' => e = .returned (.tuple #[.slice none 0 0, .int .u32 0, .int .i64 3]) ∧ w' = w := by
  have HRG := hide fun x => rring_any x slots
  obtain ⟨h1, h2, h3, h4⟩ := h
  generalize ringN slots = rn at *
  have hne : ¬ (n : Int) = rn := hn
  clear hn
  go_enter Try.func10, Try.ntmps10
  go_wp2_with (go_at_call 42; refine (HRG.out _).mono ?_; rintro e y ⟨rfl, rfl⟩)
  go_ret3
  exact ⟨rfl, rfl⟩
end Go.Proofs.Ytlkccencilhacaa
namespace Go.Proofs.Ytlkccencilhacaa
open Go.RowKit Go.Sort
open Num
set_option linter.unusedVariables false
set_option linter.unusedSimpArgs false
set_option maxRecDepth 20000

def okA (slots ext : Int) : Prop := 1 ≤ slots ∧ slots ≤ 16 ∧ 1 ≤ ext ∧ ext ≤ 1024
/-- what both Replays say -/
def Ans (slots ext : Int) (bs : List (List Nat)) (z : List Int) (N E : Int) : Prop :=
  (¬ okA slots ext ∧ z = [] ∧ N = 0 ∧ E = 1) ∨ (okA slots ext ∧ (bs.length : Int) ≠ ringN slots ∧ z = [] ∧ N = 0 ∧ E = 3) ∨
  (okA slots ext ∧ (bs.length : Int) = ringN slots ∧ ∃ res, RpRes slots.toNat ext.toNat bs res ∧ match res with
    | none => z = [] ∧ N = 0 ∧ E = 43
    | some (row, n) => z = row ∧ N = (n : Int) ∧ E = 0)
theorem Ans.uniq {slots ext : Int} {bs : List (List Nat)} {z z' : List Int} {N N' E E' : Int} (h : Ans slots ext bs z N E) (k : Ans slots ext bs z' N' E') : z' = z ∧ N' = N ∧ E' = E := by
  rcases h with ⟨a, rfl, rfl, rfl⟩ | ⟨a, b, rfl, rfl, rfl⟩ | ⟨a, b, res, hr, hm⟩ <;> rcases k with ⟨a', rfl, rfl, rfl⟩ | ⟨a', b', rfl, rfl, rfl⟩ | ⟨a', b', res', hr', hm'⟩
  · exact ⟨rfl, rfl, rfl⟩
  · exact absurd a' a
  · exact absurd a' a
  · exact absurd a a'
  · exact ⟨rfl, rfl, rfl⟩
  · exact absurd b' b
  · exact absurd a a'
  · exact absurd b b'
  · have e := hr.uniq hr'
    subst e
    rcases res with - | ⟨row, n⟩
    · obtain ⟨rfl, rfl, rfl⟩ := hm
      obtain ⟨rfl, rfl, rfl⟩ := hm'
      exact ⟨rfl, rfl, rfl⟩
    · obtain ⟨rfl, rfl, rfl⟩ := hm
      obtain ⟨rfl, rfl, rfl⟩ := hm'
      exact ⟨rfl, rfl, rfl⟩
def RepP (x : World) (slots ext : Int) (bs : List (List Nat)) (e : Ending) (x' : World) : Prop := ∃ gv z N E, e = .returned (.tuple #[gv, .int .u32 N, .int .i64 E]) ∧ Below x.heap.size x x' ∧ x'.ownsRow 0 3 1 gv z.length (z.map iV) ∧ Ans slots ext bs z N E
theorem row_of_ints {x : World} {g n : Nat} {z : List Int} (h : x.heap[g]? = some (.cells (ints z) 3 (0, 0))) (hn : z.length = n) (hm : n ≤ 16) : x.ownsRow 0 3 1 (.slice (some ⟨g, 0, none⟩) n n) z.length (z.map iV) := by
  subst hn
  refine ⟨by simp, .inr ⟨g, z.length, ints z, rfl, Nat.zero_le _, h, Nat.le_refl _, by unfold maxLen; omega, by simp [ints], ?_⟩⟩
  simp only [ints, Nat.mul_one]
  rw [List.take_of_length_le (by simp)]
theorem pRep (x : World) (a : Option Addr) (n cap : Nat) (bs : List (List Nat)) (slots ext : Int) (hn : n = bs.length) (hv : RSl x (.slice a n cap) bs) : Calls Try.prog 9 #[.int .i64 slots, .int .i64 ext, .slice a n cap] x (RepP x slots ext bs) := by
  by_cases h : okA slots ext
  · by_cases hl : (bs.length : Int) = ringN slots
    · have h' := h
      obtain ⟨h1, h2, h3, h4⟩ := h'
      have es : ((slots.toNat : Nat) : Int) = slots := by omega
      have ee : ((ext.toNat : Nat) : Int) = ext := by omega
      have hc := replay_any (w := x) (v := .slice a n cap) (bs := bs) slots.toNat ext.toNat hv (by omega) (by omega) (by omega) (by omega) (by rw [es]; exact hl)
      rw [es, ee] at hc
      refine hc.mono ?_
      rintro e x' ⟨res, hr, hb, hm⟩
      rcases res with - | ⟨row, N⟩
      · exact ⟨_, [], 0, 43, hm, hb, World.ownsRow_nil _ _ _ _, .inr (.inr ⟨h, hl, none, hr, rfl, rfl, rfl⟩)⟩
      · obtain ⟨g, -, he, hg, hln⟩ := hm
        exact ⟨_, row, _, 0, he, hb, row_of_ints hg hln (by omega), .inr (.inr ⟨h, hl, some (row, N), hr, rfl, rfl, rfl⟩)⟩
    · refine (replay_size x a n cap slots ext h (by rw [hn]; exact hl)).mono ?_
      rintro e x' ⟨rfl, rfl⟩
      exact ⟨_, [], 0, 3, rfl, Below.refl _ _, World.ownsRow_nil _ _ _ _, .inr (.inl ⟨h, hl, rfl, rfl, rfl⟩)⟩
  · refine (replay_arg x _ slots ext h).mono ?_
    rintro e x' ⟨rfl, rfl⟩
    exact ⟨_, [], 0, 1, rfl, Below.refl _ _, World.ownsRow_nil _ _ _ _, .inl ⟨h, rfl, rfl, rfl⟩⟩
theorem dRep (x : World) (a : Option Addr) (n cap : Nat) (bs : List (List Nat)) (slots ext : Int) (hn : n = bs.length) (hv : 1 ≤ n → RSl x (.slice a n cap) bs) : Calls Try.prog 10 #[.int .i64 slots, .int .i64 ext, .slice a n cap] x (RepP x slots ext bs) := by
  by_cases h : okA slots ext
  · by_cases hl : (bs.length : Int) = ringN slots
    · have h' := h
      obtain ⟨h1, h2, h3, h4⟩ := h'
      have es : ((slots.toNat : Nat) : Int) = slots := by omega
      have ee : ((ext.toNat : Nat) : Int) = ext := by omega
      have hn1 : 1 ≤ n := by
        have := hl
        unfold ringN at this
        rw [if_neg (by omega)] at this
        split at this
        · omega
        · split at this <;> omega
      have hc := rreplay_any (w := x) (v := .slice a n cap) (bs := bs) slots.toNat ext.toNat (hv hn1) (by omega) (by omega) (by omega) (by omega) (by rw [es]; exact hl)
      rw [es, ee] at hc
      refine hc.mono ?_
      rintro e x' ⟨res, hr, hb, hm⟩
      rcases res with - | ⟨row, N⟩
      · exact ⟨_, [], 0, 43, hm, hb, World.ownsRow_nil _ _ _ _, .inr (.inr ⟨h, hl, none, hr, rfl, rfl, rfl⟩)⟩
      · obtain ⟨v, -, he, hg, hln⟩ := hm
        exact ⟨_, row, _, 0, he, hb, by rw [hln]; exact hg, .inr (.inr ⟨h, hl, some (row, N), hr, rfl, rfl, rfl⟩)⟩
    · refine (rreplay_size x a n cap slots ext h (by rw [hn]; exact hl)).mono ?_
      rintro e x' ⟨rfl, rfl⟩
      exact ⟨_, [], 0, 3, rfl, Below.refl _ _, World.ownsRow_nil _ _ _ _, .inr (.inl ⟨h, hl, rfl, rfl, rfl⟩)⟩
  · refine (rreplay_arg x _ slots ext h).mono ?_
    rintro e x' ⟨rfl, rfl⟩
    exact ⟨_, [], 0, 1, rfl, Below.refl _ _, World.ownsRow_nil _ _ _ _, .inl ⟨h, rfl, rfl, rfl⟩⟩
/-- the ring that comes in -/
structure RIn (w : World) (a : Option Addr) (cap : Nat) (us : List Value) (bs : List (List Nat)) : Prop where
  cp : bs.length ≤ cap ∧ cap ≤ maxLen
  ln : bs.length ≤ 5864062014634
  at_ : 0 < bs.length → ∃ O off, a = some ⟨O, off, none⟩ ∧ O < w.heap.size ∧ ∀ k, k < bs.length → w.cell? ⟨O, off + k, none⟩ = some (us.getD k undef)
  el : ∀ k, k < bs.length → BSl w (us.getD k undef) (bs.getD k []) ∧ (bs.getD k []).length ≤ 140737488351232
theorem RIn.below {w x : World} {a : Option Addr} {cap : Nat} {us : List Value} {bs : List (List Nat)} (h : RIn w a cap us bs) (hb : Below w.heap.size w x) : RIn x a cap us bs := by
  refine ⟨h.cp, h.ln, fun hp => ?_, fun k hk => ⟨(h.el k hk).1.below hb, (h.el k hk).2⟩⟩
  obtain ⟨O, off, e, ho, hc⟩ := h.at_ hp
  exact ⟨O, off, e, Nat.lt_of_lt_of_le ho hb.size, fun k hk => (hb.cell (p := ⟨O, off + k, none⟩) ho).trans (hc k hk)⟩
theorem RIn.rsl {w : World} {a : Option Addr} {cap : Nat} {us : List Value} {bs : List (List Nat)} (h : RIn w a cap us bs) (hn : 1 ≤ bs.length) : RSl w (.slice a bs.length cap) bs := by
  obtain ⟨O, off, rfl, -, hc⟩ := h.at_ hn
  exact ⟨O, off, cap, rfl, h.cp.1, h.cp.2, fun i hi => ⟨_, hc i hi, (h.el i hi).1⟩⟩
end Go.Proofs.Ytlkccencilhacaa
namespace Go.Proofs.Ytlkccencilhacaa
open Go.RowKit Go.Sort
set_option linter.unusedVariables false
set_option linter.unusedSimpArgs false
set_option maxRecDepth 20000

/-- a list of ints that came in -/
def ISl (w : World) (v : Value) (zs : List Int) : Prop :=
  ∃ a cap, v = .slice a zs.length cap ∧ zs.length ≤ cap ∧ cap ≤ maxLen ∧ (∀ z ∈ zs, i64ok z) ∧ (0 < zs.length → ∃ b off, a = some ⟨b, off, none⟩ ∧ ∀ i, i < zs.length → w.cell? ⟨b, off + i, none⟩ = some (.int .i64 (zs.getD i 0)))
theorem ptrI (W : World) : (binOp .eql 104 (.pointer none) (.pointer none)).run Try.prog W = .ok (.bool true) W := by kernel_rfl
theorem ptrI' (W : World) (a : Addr) : (binOp .eql 104 (.pointer (some a)) (.pointer none)).run Try.prog W = .ok (.bool false) W := by kernel_rfl
end Go.Proofs.Ytlkccencilhacaa
namespace Go.Proofs.Ytlkccencilhacaa
open Go.ChangeShapes Go.WideShapes Go.ChangeAt Go.RowKit
set_option linter.unusedVariables false
set_option linter.unusedSimpArgs false
set_option maxRecDepth 20000

theorem bytesInt : Try.prog.bytesOf 3 = 8 := by kernel_rfl
theorem trod_place_lt {H : Type} {enc : TypeId × Value → H} {W : World} {t : TypeId} {v : Value} {d : DataW H} {p : List MemPlace} (h1 : DataW.Trod enc Try.prog W 0 (fun _ => true) true t v d p) : ∀ x ∈ p, x.block < W.heap.size := by
  obtain ⟨m, hm⟩ := h1; exact DataW.trod_lt m _ _ _ hm
/-- a list of ints that came in -/
theorem open_steps {H : Type} {enc : TypeId × Value → H} {W : World} {base : Nat} {v : Value} {d : DataW H} {p : List MemPlace} {ts : List TypeId} {ds : List (DataW H)} (j : Nat) (hts : ts[j]? = some 25) (hds : ds[j]? = some d)
    (hsz : (DataW.weightsEach Try.prog ts ds).all (· ≤ reachBytes) = true) (hok : Value.okWide Try.prog W .any base 25 v) (h1 : DataW.Trod enc Try.prog W 0 (fun _ => true) true 25 v d p) : ∃ zs : List Int, ISl W v zs ∧ zs.length ≤ 1000000000000000 := by
  obtain ⟨a1, len1, cap1, rfl⟩ := okWide_slice Try.underlying25 hok
  obtain ⟨fuel, hf⟩ := h1
  rcases open_ints Try.underlying25 Try.underlying3 (by kernel_rfl) hf with ⟨hcs, _⟩ | ⟨x, l, c, zs, hcs, _, hl, hm, hz, hx, hcell, hwz⟩
  · simp [Value.cells] at hcs
    obtain ⟨rfl, rfl, rfl⟩ := hcs
    exact ⟨[], ⟨none, 0, rfl, Nat.le_refl _, by unfold maxLen; omega, by simp, by simp⟩, Nat.zero_le _⟩
  · simp [Value.cells] at hcs
    obtain ⟨rfl, rfl, rfl⟩ := hcs
    simp only [if_true] at hz
    have hlen : (zs.take len1).length = len1 := by simp; omega
    refine ⟨zs.take len1, ⟨_, cap1, by rw [hlen], by omega, hm, fun z hz' => ?_, fun hp => ?_⟩, ?_⟩
    · have := bounds_i64 (hwz z (List.mem_of_mem_take hz'))
      exact ⟨by omega, by omega⟩
    · obtain ⟨b, off, rfl, hc⟩ := ints_at hcell (by omega)
      refine ⟨b, off, rfl, fun i hi => ?_⟩
      rw [hc i (by omega)]
      have hi2 : i < len1 := by omega
      simp [List.getD, hi2]
    · have h0 := List.all_eq_true.1 hsz (zs.length * 8) (DataW.weights_mem_each hts hds _ (by
        simp only [Prod.mk.injEq] at hx
        rw [hx.1]
        simp only [DataW.weights]
        rw [Try.underlying25]
        simp only [lits, List.length_map, List.length_take, List.length_drop, bytesInt]
        rw [show min len1 zs.length + (zs.length - len1) = zs.length by omega]
        exact List.mem_cons_self))
      simp only [decide_eq_true_eq] at h0
      unfold reachBytes at h0
      rw [hlen]
      omega
theorem again_ints {H : Type} {enc : TypeId × Value → H} {W W' : World} {v : Value} {d : DataW H} {p : List MemPlace} (h1 : DataW.Trod enc Try.prog W 0 (fun _ => true) true 25 v d p) (bel : Below W.heap.size W W') :
    DataW.Trod enc Try.prog W' 0 (fun b => decide (b < W.heap.size)) true 25 v d p := Below.trod laidOut (by kernel_rfl) (of_decide_eq_true (by kernel_rfl)) h1 bel (trod_place_lt h1)
end Go.Proofs.Ytlkccencilhacaa
namespace Go.Proofs.Ytlkccencilhacaa
open Go.ChangeShapes Go.WideShapes Go.ChangeAt Go.RowKit
set_option linter.unusedVariables false
set_option linter.unusedSimpArgs false
set_option maxRecDepth 20000

structure OpK where
  kind : Int
  of_ : Int
  key : Int
/-- a list of asks that came in -/
def OKl (w : World) (v : Value) (l : List OpK) : Prop :=
  ∃ a cap, v = .slice a l.length cap ∧ l.length ≤ cap ∧ cap ≤ maxLen ∧ (∀ s ∈ l, i64ok s.kind ∧ i64ok s.of_ ∧ i64ok s.key) ∧ (0 < l.length → ∃ b off, a = some ⟨b, off, none⟩ ∧ ∀ i (hi : i < l.length), w.cell? ⟨b, off + i * 3, none⟩ = some (.int .i64 l[i].kind) ∧ w.cell? ⟨b, off + i * 3 + 1, none⟩ = some (.int .i64 l[i].of_) ∧ w.cell? ⟨b, off + i * 3 + 2, none⟩ = some (.int .i64 l[i].key))
theorem cellsIntK : Try.prog.cellsOf 3 = 1 := by kernel_rfl
theorem cellsOpK : Try.prog.cellsOf 42 = 3 := by kernel_rfl
theorem bytesOpK : Try.prog.bytesOf 42 = 24 := by kernel_rfl
theorem open_ops {H : Type} {enc : TypeId × Value → H} {W : World} {base : Nat} {v : Value} {d : DataW H} {p : List MemPlace} {ts : List TypeId} {ds : List (DataW H)} (j : Nat) (hts : ts[j]? = some 36) (hds : ds[j]? = some d)
    (hsz : (DataW.weightsEach Try.prog ts ds).all (· ≤ reachBytes) = true)
    (hok : Value.okWide Try.prog W .any base 36 v) (h1 : DataW.Trod enc Try.prog W 0 (fun _ => true) true 36 v d p) : ∃ l : List OpK, OKl W v l ∧ l.length ≤ 1000000000000000 := by
  obtain ⟨a1, len1, cap1, rfl⟩ := okWide_slice Try.underlying36 hok
  obtain ⟨fuel, hf⟩ := h1
  rcases Go.Deep.open_slice Try.underlying36 hf with ⟨hcs, _⟩ | ⟨a, len, cap, m, n, D, Pl, hcs, _, hl, hm, hmm, hx, hel⟩
  · simp [Value.cells] at hcs
    obtain ⟨rfl, rfl, rfl⟩ := hcs
    exact ⟨[], ⟨none, 0, rfl, Nat.le_refl _, by unfold maxLen; omega, by simp, by simp⟩, Nat.zero_le _⟩
  · simp [Value.cells] at hcs
    obtain ⟨rfl, rfl, rfl⟩ := hcs
    have hlen : len1 ≤ 1000000000000000 := by
      simp only [Prod.mk.injEq] at hx
      have h0 := List.all_eq_true.1 hsz _ (DataW.weights_mem_each hts hds _ (by
        rw [hx.1]
        simp only [DataW.weights]
        rw [Try.underlying36]
        exact List.mem_cons_self))
      simp only [List.length_map, List.length_range, bytesOpK, decide_eq_true_eq] at h0
      unfold reachBytes at h0
      omega
    simp only [if_true] at hmm
    subst hmm
    have each : ∀ i, i < len1 → ∃ s : OpK, (i64ok s.kind ∧ i64ok s.of_ ∧ i64ok s.key) ∧ W.cell? (a.add (i * 3)) = some (.int .i64 s.kind) ∧ W.cell? (a.add (i * 3 + 1)) = some (.int .i64 s.of_) ∧ W.cell? (a.add (i * 3 + 2)) = some (.int .i64 s.key) := by
      intro i hi
      obtain ⟨cs', h1, h2⟩ := hel i (by omega)
      rw [cellsOpK] at h1
      obtain ⟨_, hlen, hcell⟩ := World.cells?_some h1
      obtain ⟨xs, k, hk, hxy, _, hxl, hfd⟩ := DataW.trod_struct Try.underlying42 h2
      match xs, hxl, cs', hlen with
      | [y0, y1, y2], _, [v0, v1, v2], _ =>
        have g0 := hfd 0 _ rfl
        have g1 := hfd 1 _ rfl
        have g2 := hfd 2 _ rfl
        simp [cellsIntK] at g0 g1 g2
        have e0 := hcell 0 (by omega)
        have e1 := hcell 1 (by omega)
        have e2 := hcell 2 (by omega)
        rw [Go.Deep.add_add] at e0 e1 e2
        obtain ⟨z0, hz0, _, wf0⟩ := DataW.trod_int Try.underlying3 g0
        obtain ⟨z1, hz1, _, wf1⟩ := DataW.trod_int Try.underlying3 g1
        obtain ⟨z2, hz2, _, wf2⟩ := DataW.trod_int Try.underlying3 g2
        simp at hz0 hz1 hz2
        subst hz0 hz1 hz2
        have b0 : i64ok z0 := by have := bounds_i64 wf0; unfold i64ok; omega
        have b1 : i64ok z1 := by have := bounds_i64 wf1; unfold i64ok; omega
        have b2 : i64ok z2 := by have := bounds_i64 wf2; unfold i64ok; omega
        exact ⟨⟨z0, z1, z2⟩, ⟨b0, b1, b2⟩, by simpa using e0, by simpa using e1, by simpa using e2⟩
    haveI : Inhabited OpK := ⟨⟨0, 0, 0⟩⟩
    obtain ⟨f, hfa⟩ := Go.Deep.choose_lt each
    refine ⟨(List.range len1).map f, ⟨some a, m, by simp, by simpa using hl, hm, ?_, ?_⟩, by simpa using hlen⟩
    · intro s hs
      obtain ⟨i, hi, rfl⟩ := List.mem_map.1 hs
      exact (hfa i (List.mem_range.1 hi)).1
    · intro hpos
      simp only [List.length_map, List.length_range] at hpos
      obtain ⟨b, off, spot⟩ := a
      have hspot : spot = none := by simpa [Addr.add] using World.cell?_spot (hfa 0 hpos).2.1
      subst hspot
      refine ⟨b, off, rfl, fun i hi => ?_⟩
      simp only [List.length_map, List.length_range] at hi
      have h := hfa i hi
      simp only [List.getElem_map, List.getElem_range]
      refine ⟨?_, ?_, ?_⟩
      · rw [← Addr.add_lit]; exact h.2.1
      · rw [Nat.add_assoc, ← Addr.add_lit]; exact h.2.2.1
      · rw [Nat.add_assoc, ← Addr.add_lit]; exact h.2.2.2
theorem again_ops {H : Type} {enc : TypeId × Value → H} {W W' : World} {v : Value} {d : DataW H} {p : List MemPlace} (h1 : DataW.Trod enc Try.prog W 0 (fun _ => true) true 36 v d p) (bel : Below W.heap.size W W') :
    DataW.Trod enc Try.prog W' 0 (fun b => decide (b < W.heap.size)) true 36 v d p := Below.trod laidOut (by kernel_rfl) (of_decide_eq_true (by kernel_rfl)) h1 bel (trod_place_lt h1)
theorem cellsU32 : Try.prog.cellsOf 26 = 1 := by kernel_rfl
theorem cellsMade : Try.prog.cellsOf 35 = 4 := by kernel_rfl
theorem made_cells {H : Type} {enc : TypeId × Value → H} {W : World} {n : Nat} {v0 v1 v2 v3 : Value} {y : DataW H × List MemPlace} (h : DataW.trod enc Try.prog W 0 (fun _ => true) true n 35 [v0, v1, v2, v3] = some y) : ∃ (a b c : Int) (d : Nat), v0 = .int .i64 a ∧ v1 = .int .i64 b ∧ v2 = .int .i64 c ∧ v3 = .int .u32 (d : Int) := by
  obtain ⟨xs2, k2, hk2, hxy2, _, hxl2, hfd2⟩ := DataW.trod_struct Try.underlying35 h
  match xs2, hxl2 with
  | [u0, u1, u2, u3], _ =>
    have m0 := hfd2 0 _ rfl
    have m1 := hfd2 1 _ rfl
    have m2 := hfd2 2 _ rfl
    have m3 := hfd2 3 _ rfl
    simp [cellsIntK, cellsU32] at m0 m1 m2 m3
    obtain ⟨b0, p0, _, q0⟩ := DataW.trod_int Try.underlying3 m0
    obtain ⟨b1, p1, _, q1⟩ := DataW.trod_int Try.underlying3 m1
    obtain ⟨b2, p2, _, q2⟩ := DataW.trod_int Try.underlying3 m2
    obtain ⟨b3, p3, _, q3⟩ := DataW.trod_int Try.underlying26 m3
    simp at p0 p1 p2 p3
    have h3 : 0 ≤ b3 := by have := bounds_u32 q3; omega
    exact ⟨b0, b1, b2, b3.toNat, p0, p1, p2, by rw [p3, Int.toNat_of_nonneg h3]⟩
theorem open_made {H : Type} {enc : TypeId × Value → H} {W : World} {base : Nat} {v : Value} {d : DataW H} {p : List MemPlace} (hok : Value.okWide Try.prog W .any base 35 v) (h1 : DataW.Trod enc Try.prog W 0 (fun _ => true) true 35 v d p) : ∃ (a b c : Int) (d : Nat), v = .agg #[.int .i64 a, .int .i64 b, .int .i64 c, .int .u32 (d : Int)] := by
  obtain ⟨cs, rfl, hcs⟩ := okWide_struct Try.underlying35 hok
  rw [cellsMade] at hcs
  obtain ⟨fuel, hf⟩ := h1
  obtain ⟨l⟩ := cs
  match l, hcs with
  | [v0, v1, v2, v3], _ =>
    obtain ⟨a, b, c, d, rfl, rfl, rfl, rfl⟩ := made_cells hf
    exact ⟨a, b, c, d, rfl⟩
theorem again_made {H : Type} {enc : TypeId × Value → H} {W W' : World} {v : Value} {d : DataW H} {p : List MemPlace} (h1 : DataW.Trod enc Try.prog W 0 (fun _ => true) true 35 v d p) (bel : Below W.heap.size W W') :
    DataW.Trod enc Try.prog W' 0 (fun b => decide (b < W.heap.size)) true 35 v d p := Below.trod laidOut (by kernel_rfl) (of_decide_eq_true (by kernel_rfl)) h1 bel (trod_place_lt h1)
end Go.Proofs.Ytlkccencilhacaa
namespace Go.Proofs.Ytlkccencilhacaa
open Go.RowKit Go.Sort
open Num
set_option linter.unusedVariables false
set_option linter.unusedSimpArgs false
set_option maxRecDepth 20000

theorem opk_in {w : World} {av : Option Addr} {l : List OpK} (h : 0 < l.length → ∃ b off, av = some ⟨b, off, none⟩ ∧ ∀ i (hi : i < l.length), w.cell? ⟨b, off + i * 3, none⟩ = some (.int .i64 l[i].kind) ∧ w.cell? ⟨b, off + i * 3 + 1, none⟩ = some (.int .i64 l[i].of_) ∧ w.cell? ⟨b, off + i * 3 + 2, none⟩ = some (.int .i64 l[i].key)) :
    ∀ x, Below w.heap.size w x → ∀ i, i < l.length → ∃ g off, av = some ⟨g, off, none⟩ ∧ x.cell? ⟨g, off + i * 3, none⟩ = some (.int .i64 (l.getD i ⟨0, 0, 0⟩).kind) ∧ x.cell? ⟨g, off + i * 3 + 1, none⟩ = some (.int .i64 (l.getD i ⟨0, 0, 0⟩).of_) ∧ x.cell? ⟨g, off + i * 3 + 2, none⟩ = some (.int .i64 (l.getD i ⟨0, 0, 0⟩).key) := fun x hb i hi => by
  obtain ⟨g, off, rfl, hc⟩ := h (by omega)
  have hlt := World.block_lt_of_cell? w _ (hc 0 (by omega)).1
  obtain ⟨c0, c1, c2⟩ := hc i hi
  have e : l.getD i ⟨0, 0, 0⟩ = l[i] := by simp [List.getD, hi]
  rw [e]
  exact ⟨g, off, rfl, (World.cell?_of_block (hb.block g hlt)).trans c0, (World.cell?_of_block (hb.block g hlt)).trans c1, (World.cell?_of_block (hb.block g hlt)).trans c2⟩
theorem saved_no (w : World) (a b c : Int) (d : Nat) (sv : Value) (hm : ¬ okM a b c) : Calls Try.prog 5 #[.agg #[.int .i64 a, .int .i64 b, .int .i64 c, .int .u32 (d : Int)], sv] w fun e w' => e = .returned (.bool true) ∧ Below w.heap.size w w' := by
  have HG := hide fun x => good_any x a b c (d : Int)
  rw [decide_eq_false hm] at HG
  have HB0 := hide ((Below.refl w.heap.size w).alloc (Nat.le_refl _) (.cells #[.int .i64 a, .int .i64 b, .int .i64 c, .int .u32 (d : Int)] 35))
  clear hm
  go_enter Try.func5, Try.ntmps5
  go_wp2_with (go_at_call 14; refine (HG.out _).mono ?_; rintro e y ⟨rfl, hb⟩; have HY := hide (HB0.out.trans (hb.mono HB0.out.size)); clear hb)
  go_ret
  exact ⟨rfl, HY.out⟩
theorem RigP.rgs {w w' : World} {n ext size d nr : Nat} {e : Ending} (hd : d < 4294967296) (hs : size ≤ 1024) (h : RigP w n ext size d nr e w') : ∃ px lp, e = .returned (.tuple #[.pointer (some ⟨px, 0, none⟩), .bool true]) ∧ RgS w w' px n ext size d nr ⟨n, [], [], [], []⟩ lp d 0 (List.replicate nr (List.replicate size 0)) false 0 := by
  obtain ⟨px, lp, p, bm, gv, vs, rfl, h⟩ := h
  refine ⟨px, lp, rfl, _, _, _, _, _, _, _, h, WS.start hd, fun k => ?_⟩
  rcases Nat.lt_or_ge k nr with hk | hk
  · simp [List.getD, hk]; omega
  · simp [List.getD, Nat.not_lt.2 hk]
theorem rgs_len {w0 z : World} {px n ext size first0 nr lp first written : Nat} {S : LS} {bs : List (List Nat)} {wrote : Bool} {i : Nat} (h : RgS w0 z px n ext size first0 nr S lp first written bs wrote i) : (rowL S).length = n ∧ n ≤ 16 := by
  obtain ⟨p, bm, kv, rv, iv, gv, vs, hd, hs, hl⟩ := h
  have := hd.ok.s2
  rw [hd.sl] at this
  exact ⟨(rowL_len hd.ok).trans hd.sl, this⟩
theorem same_rows {z : World} {g g' n : Nat} {l : List Int} (hl : l.length = n ∧ n ≤ 16) (h : z.heap[g]? = some (.cells (ints l) 3 (0, 0))) (h' : z.heap[g']? = some (.cells (ints l) 3 (0, 0))) : Calls Try.prog 11 #[.slice (some ⟨g, 0, none⟩) n n, .slice (some ⟨g', 0, none⟩) n n] z fun e w' => e = .returned (.bool true) ∧ ∃ m, w' = z.drewN m := by
  obtain ⟨rfl, h2⟩ := hl
  exact sameIntsS_any (row_ints h h2) (row_ints h' h2)
theorem below_row {y z : World} {g : Nat} {o : Obj} (hb : Below y.heap.size y z) (h : y.heap[g]? = some o) : z.heap[g]? = some o := (hb.block g (Array.getElem?_eq_some_iff.1 h).1).trans h
theorem below_some {y z : World} (h : ∃ m, z = y.drewN m) : Below y.heap.size y z := by
  obtain ⟨m, rfl⟩ := h
  exact below_drewN (Below.refl _ _) m
def TyS (x z : World) : Prop := ∀ (g : Nat) (cs : Array Value), x.heap[g]? = some (.cells cs 48 (0, 0)) → z.heap[g]? = some (.cells cs 48 (0, 0))
theorem cellB {x y : World} {a : Addr} {v : Value} (hb : Below x.heap.size x y) (h : x.cell? a = some v) : y.cell? a = some v := (World.cell?_of_block (hb.block _ (World.block_lt_of_cell? x _ h))).trans h
section
variable {w0 z : World} {px n ext size first0 nr lp first written : Nat} {S : LS} {bs : List (List Nat)} {wrote : Bool} {i : Nat}
theorem sEndO (h : RgS w0 z px n ext size first0 nr S lp first written bs wrote i) (hi : i ≤ 1000000000000000) {x : Int} (hx : i64ok x) : Calls Try.prog 20 #[.pointer (some ⟨lp, 0, none⟩), .int .i64 x] z fun e z' => EnS w0 px n ext size first0 nr lp first written bs wrote i e z' ∧ OpS z z' := by
  have h' := h
  obtain ⟨p, bm, kv, rv, iv, gv, vs, hd, hs, hl⟩ := h'
  have hwr := hd.wr
  refine (lEnd_any hd.lg hd.ok (by omega) hx).mono ?_
  rintro e z' (⟨-, rfl, rfl⟩ | ⟨-, S', er, iv', hp, rfl, hl2, ho2, hc2, hloc⟩)
  · exact ⟨⟨_, S, rfl, h.up⟩, fun _ _ e => e⟩
  · have hks : S'.ks = S.ks ∧ S'.slots = S.slots := by
      rcases hp with ⟨-, rfl, -⟩ | ⟨s, r, -, -, rfl, -⟩ <;> exact ⟨rfl, rfl⟩
    refine ⟨⟨_, S', rfl, p, bm, kv, rv, iv', gv, vs, hd.turn hl2 (ho2.up (by omega)) hks.2 (hc2.mono fun b _ e => .inr e) (fun b e => ?_) (by omega), hs.same hks.1 hks.2, hl⟩, hd.lg.ops (hc2.mono fun b _ e => .inr e)⟩
    rcases e with e | e
    · exact .inl (.inl e)
    · rcases hloc b e with q | q
      · exact .inl (.inr q)
      · exact .inr q
theorem sBeginO (hw : WN n ext size nr) (h : RgS w0 z px n ext size first0 nr S lp first written bs wrote i) (hi : i ≤ 1000000000000000) (x : Int) : Calls Try.prog 18 #[.pointer (some ⟨lp, 0, none⟩), .int .i64 x] z fun e z' => BgU w0 px n ext size first0 nr S lp first written bs wrote i e z' ∧ OpS z z' ∧ TyS z z' := by
  obtain ⟨p, bm, kv, rv, iv, gv, vs, hd, hs, hl⟩ := h
  have hwr := hd.wr
  have hsz := hw.sz.ge
  refine (begin_any hd.lg hd.ok (by omega) (by omega) hw.e2 hw.sz x).mono ?_
  rintro e z' ⟨S', written', r, v, kv', rv', iv', rfl, hr, hrc, hl2, ho2, hc2, hloc⟩
  rcases hr with ⟨-, rfl, rfl, rfl⟩ | ⟨-, slot, old, gone, er, hg, rfl, rfl⟩ | ⟨hx, slot, old, gone, hg, rfl, rfl⟩
  · simp only [RcO] at hrc
    subst hrc
    refine ⟨⟨_, _, _, _, _, _, _, rfl, .inl ⟨rfl, S', p, bm, kv', rv', iv', gv, vs, hd.turn hl2 ho2 rfl hc2 hloc (by omega), hs, hl⟩⟩, hd.lg.ops hc2, fun g cs e => (hc2.keep g (Array.getElem?_eq_some_iff.1 e).1 (hd.lg.notTy e (by decide) (by decide) (by decide))).trans e⟩
  · simp only [RcO] at hrc
    subst hrc
    have hks : S'.ks = S.ks ∧ S'.slots = S.slots := by
      rcases hg with ⟨s, -, rfl, -⟩ | ⟨-, -, -, -, e, -⟩ | ⟨-, -, s, r, o, -, -, -, -, e, -⟩ | ⟨-, -, -, rfl, -⟩
      · exact ⟨rfl, rfl⟩
      · cases e
      · cases e
      · exact ⟨rfl, rfl⟩
    refine ⟨⟨_, _, _, _, _, _, _, rfl, .inl ⟨rfl, S', p, bm, kv', rv', iv', gv, vs, hd.turn hl2 ho2 hks.2 hc2 hloc (by omega), hs.same hks.1 hks.2, hl⟩⟩, hd.lg.ops hc2, fun g cs e => (hc2.keep g (Array.getElem?_eq_some_iff.1 e).1 (hd.lg.notTy e (by decide) (by decide) (by decide))).trans e⟩
  · obtain ⟨g, rfl, hrow, -, -⟩ := hrc
    have hlen : (recOf S' size first written (slot : Int) x (if gone then old else -1)).length = size := recOf_len (by omega)
    have hlt : ∀ b ∈ recOf S' size first written (slot : Int) x (if gone then old else -1), b < 256 := by
      rw [recOf_rc _ _ _ _ _ _ _ ho2.s1 ho2.s2]
      exact bytes_lt _ _
    refine ⟨⟨_, _, _, _, _, _, _, rfl, .inr ⟨hlen, rfl, S', _, by rw [hlen]; exact bsl_row hrow hlen (by unfold maxLen; omega) hlt, p, bm, kv', rv', iv', gv, vs, hd.turn hl2 ho2 hg.slots hc2 hloc (by omega), hs.beg hw hd.ok hd.sl hx hg, hs.len, hlen, hl⟩⟩, hd.lg.ops hc2, fun g cs e => (hc2.keep g (Array.getElem?_eq_some_iff.1 e).1 (hd.lg.notTy e (by decide) (by decide) (by decide))).trans e⟩
theorem BgU.cell {e : Ending} {z' : World} (h : BgU w0 px n ext size first0 nr S lp first written bs wrote i e z') : z'.cell? ⟨px, 0, none⟩ = some (.pointer (some ⟨lp, 0, none⟩)) := by
  obtain ⟨c0, c1, c2, a, k, cc, er, -, ⟨-, S', h⟩ | ⟨-, -, S', rec, -, p, bm, kv, rv, iv, gv, vs, hd, -⟩⟩ := h
  · exact h.cells.1
  · exact cell_of_row _ _ _ _ _ _ hd.row
/-- a cell of a change's box written -/
theorem RgD.box {p bm : Nat} {kv rv iv gv : Value} {vs : List Value} (h : RgD w0 z px lp p bm kv rv iv S n ext size first0 first written gv vs bs wrote i) {g : Nat} {cs : Array Value} (hg : z.heap[g]? = some (.cells cs 48 (0, 0))) (hw : w0.heap.size ≤ g) (k : Nat) (v : Value) : RgD w0 (z.setCell ⟨g, k, none⟩ v) px lp p bm kv rv iv S n ext size first0 first written gv vs bs wrote i := by
  have hset : ∀ b', b' ≠ g → (z.setCell ⟨g, k, none⟩ v).heap[b']? = z.heap[b']? := fun b' hb => Go.heap_setCell_other _ _ _ _ hb
  refine ⟨(hset _ (neType h.row hg (by decide))).trans h.row, h.lg.kept fun b e => hset b fun e2 => h.lg.notTy hg (by decide) (by decide) (by decide) (e2 ▸ e), h.ok, h.sl, h.rg.keep (fun g' hg' => ?_) (fun g' cs' hc => hset g' (neType hc hg (by decide))), h.be.trans ⟨rfl, rfl, rfl, by rw [World.size_setCell]; exact Nat.le_refl _, fun b hb => hset b (by omega)⟩, h.lo, h.po, h.wr⟩
  obtain ⟨cs', hc⟩ := rowCells h.rg.row hg'
  exact hset g' (neType hc hg (by decide))
theorem RgS.box (h : RgS w0 z px n ext size first0 nr S lp first written bs wrote i) {g : Nat} {cs : Array Value} (hg : z.heap[g]? = some (.cells cs 48 (0, 0))) (hw : w0.heap.size ≤ g) (k : Nat) (v : Value) : RgS w0 (z.setCell ⟨g, k, none⟩ v) px n ext size first0 nr S lp first written bs wrote i := by
  obtain ⟨p, bm, kv, rv, iv, gv, vs, hd, hr⟩ := h
  exact ⟨p, bm, kv, rv, iv, gv, vs, hd.box hg hw k v, hr⟩
theorem RgM.box {rec : List Nat} (h : RgM w0 z px n ext size first0 nr S lp first written bs wrote rec i) {g : Nat} {cs : Array Value} (hg : z.heap[g]? = some (.cells cs 48 (0, 0))) (hw : w0.heap.size ≤ g) (k : Nat) (v : Value) : RgM w0 (z.setCell ⟨g, k, none⟩ v) px n ext size first0 nr S lp first written bs wrote rec i := by
  obtain ⟨p, bm, kv, rv, iv, gv, vs, hd, hr⟩ := h
  exact ⟨p, bm, kv, rv, iv, gv, vs, hd.box hg hw k v, hr⟩
theorem bsl_box3 {g : Nat} {v : Value} {l : List Nat} (h : BSl z v l) (hg : z.heap[g]? = some (.cells #[.int .i64 0, .int .i64 0, .int .i64 0] 48 (0, 0))) (a b c : Value) : BSl (((z.setCell ⟨g, 0, none⟩ a).setCell ⟨g, 1, none⟩ b).setCell ⟨g, 2, none⟩ c) v l := by
  obtain ⟨ad, cap, rfl, h1, h2, h3, h4, h5⟩ := h
  refine ⟨ad, cap, rfl, h1, h2, h3, h4, fun hl => ?_⟩
  obtain ⟨b0, off, rfl, hc⟩ := h5 hl
  have hne : g ≠ b0 := by
    rintro rfl
    have h0 := hc 0 hl
    rw [Nat.add_zero, cell_of_row _ _ _ _ _ _ hg] at h0
    rcases off with _ | _ | _ | off <;> simp at h0
  exact ⟨b0, off, rfl, fun i hi => by simp [World.cell?_setCell_far, hne, hc i hi]⟩
def BgT (w0 : World) (px n ext size first0 nr lp first written : Nat) (bs : List (List Nat)) (wrote : Bool) (i : Nat) (a : Option Addr) (k cc : Nat) (er : Int) (y : World) : Prop := (k = 0 ∧ ∃ S', RgS w0 y px n ext size first0 nr S' lp first written bs wrote (i + 1)) ∨ (k = size ∧ er = 0 ∧ ∃ S' rec, BSl y (.slice a k cc) rec ∧ RgM w0 y px n ext size first0 nr S' lp first written bs wrote rec i)
theorem BgT.below {a : Option Addr} {k cc : Nat} {er : Int} {y : World} (h : BgT w0 px n ext size first0 nr lp first written bs wrote i a k cc er z) (hb : Below z.heap.size z y) : BgT w0 px n ext size first0 nr lp first written bs wrote i a k cc er y := by
  rcases h with ⟨h1, S', h⟩ | ⟨h1, h2, S', rec, h3, h4⟩
  · exact .inl ⟨h1, S', h.below hb⟩
  · exact .inr ⟨h1, h2, S', rec, h3.below hb, h4.below hb⟩
theorem BgT.box3 {a : Option Addr} {k cc : Nat} {er : Int} {g : Nat} (h : BgT w0 px n ext size first0 nr lp first written bs wrote i a k cc er z) (hg : z.heap[g]? = some (.cells #[.int .i64 0, .int .i64 0, .int .i64 0] 48 (0, 0))) (hw : w0.heap.size ≤ g) (u v x : Value) : BgT w0 px n ext size first0 nr lp first written bs wrote i a k cc er (((z.setCell ⟨g, 0, none⟩ u).setCell ⟨g, 1, none⟩ v).setCell ⟨g, 2, none⟩ x) := by
  have g1 := Go.heap_setCell_same _ _ 0 _ 48 u hg
  have g2 := Go.heap_setCell_same _ _ 1 _ 48 v g1
  rcases h with ⟨h1, S', h⟩ | ⟨h1, h2, S', rec, h3, h4⟩
  · exact .inl ⟨h1, S', ((h.box hg hw 0 u).box g1 hw 1 v).box g2 hw 2 x⟩
  · exact .inr ⟨h1, h2, S', rec, bsl_box3 h3 hg u v x, ((h4.box hg hw 0 u).box g1 hw 1 v).box g2 hw 2 x⟩
theorem u32_next (a b : Nat) : IntKind.u32.wrap ((((a + b) % 4294967296 : Nat) : Int) + 1) = (((a + (b + 1)) % 4294967296 : Nat) : Int) := by
  simp [IntKind.wrap, IntKind.bits, IntKind.signed]; omega
end
end Go.Proofs.Ytlkccencilhacaa
