import Derived.Test.YtlkccencilhacaaALog9
namespace Go.Proofs.Ytlkccencilhacaa
open Go.RowKit Go.Sort
open Num
set_option linter.unusedVariables false
set_option linter.unusedSimpArgs false
set_option maxRecDepth 20000

theorem results_row_tmp2 {P : Program} {fn : Func} {p u v : Tmp} {ty : TypeId} (h : fn.results = #[.cell p ty, .tmp u, .tmp v]) (tmps : Array Value) (w : World) (g : Nat) (t : TypeId) (cs : Array Value) (fr : Nat × Nat) (d : TypeDesc)
    (hp : tmps.getD p undef = .pointer (some ⟨g, 0, none⟩)) (hg : w.heap[g]? = some (.cells cs t fr))
    (hu : P.underlying ty = some d) (hd : (match d with | .struct _ | .array _ _ => true | _ => false) = true) (hi : (P.info? ty).map (·.size) = some cs.size) :
    (results fn tmps).run P w = .ok (.tuple #[.agg cs, tmps.getD u undef, tmps.getD v undef]) w := by
  have hp' : tmps[p]?.getD undef = .pointer (some ⟨g, 0, none⟩) := by simpa using hp
  simp [results, h, hp', asAddr, run_loadVar_row w g t ty cs fr d hg hu hd hi]
theorem set3 {w : World} {g : Nat} {x0 x1 x2 : Value} {t : TypeId} (h : w.heap[g]? = some (.cells #[x0, x1, x2] t (0, 0))) (a b c : Value) : (((w.setCell ⟨g, 0, none⟩ a).setCell ⟨g, 1, none⟩ b).setCell ⟨g, 2, none⟩ c).heap[g]? = some (.cells #[a, b, c] t (0, 0)) := by
  have h1 := Go.heap_setCell_same w g 0 _ t a h
  have h2 := Go.heap_setCell_same _ g 1 _ t b h1
  exact Go.heap_setCell_same _ g 2 _ t c h2
theorem chgSize : (Try.prog.info? 48).map (·.size) = some 3 := by kernel_rfl
/-- what Begin answers -/
structure Bg where
  c0 : Int
  c1 : Int
  c2 : Int
  bs : Option (List Nat)
  er : Int
def recOf (S' : LS) (size first written : Nat) (c0 c1 c2 : Int) : List Nat := recB size ((first + written) % 4294967296) (min written 65535) S'.slots c0 c1 c2 (written * 4 % S'.slots) (ctxL (rowL S') (written * 4 % S'.slots))
def BegRes (S : LS) (ext size first written : Nat) (x : Int) (S' : LS) (written' : Nat) (r : Bg) : Prop :=
  (¬ (0 ≤ x ∧ x < (ext : Int)) ∧ S' = S ∧ written' = written ∧ r = ⟨0, 0, 0, none, 2⟩) ∨
  ((0 ≤ x ∧ x < (ext : Int)) ∧ ∃ slot old gone er, GetRes S x S' slot false old gone er ∧ written' = written ∧ r = ⟨0, 0, 0, none, er⟩) ∨
  ((0 ≤ x ∧ x < (ext : Int)) ∧ ∃ slot old gone, GetRes S x S' slot true old gone 0 ∧ written' = written + 1 ∧ r = ⟨(slot : Int), x, (if gone then old else -1), some (recOf S' size first written (slot : Int) x (if gone then old else -1)), 0⟩)
/-- the record that is handed out -/
def RcO (w w' : World) (GU' : Nat → Prop) (v : Value) : Option (List Nat) → Prop
  | none => v = .slice none 0 0
  | some bs => ∃ g, v = .slice (some ⟨g, 0, none⟩) bs.length bs.length ∧ w'.heap[g]? = some (.cells (byts bs) 5 (0, 0)) ∧ w.heap.size ≤ g ∧ ¬ GU' g
def BegP (w : World) (lp p bm : Nat) (kv rv iv : Value) (S : LS) (ext size first written M : Nat) (x : Int) (e : Ending) (w' : World) : Prop :=
  ∃ S' written' r v kv' rv' iv', e = .returned (.tuple #[.agg #[.int .i64 r.c0, .int .i64 r.c1, .int .i64 r.c2], v, .int .i64 r.er]) ∧ BegRes S ext size first written x S' written' r ∧ RcO w w' (GU lp p bm kv' rv' iv') v r.bs ∧ LgR w' lp p bm kv' rv' iv' S' ext size first written' ∧ S'.Ok (M + 1) ∧ Chg (GU lp p bm kv rv iv) w w' ∧ ∀ b, GU lp p bm kv' rv' iv' b → GU lp p bm kv rv iv b ∨ w.heap.size ≤ b
theorem GetRes.cases {S S' : LS} {x : Int} {slot : Nat} {fresh : Bool} {old : Int} {gone : Bool} {er : Int} (h : GetRes S x S' slot fresh old gone er) : (fresh = false ∧ gone = false ∧ er = 0) ∨ (fresh = false ∧ gone = false ∧ er = 41) ∨ (fresh = true ∧ gone = false ∧ er = 0) ∨ (fresh = true ∧ gone = true ∧ er = 0) := by
  rcases h with ⟨s, g1, g2, g3, rfl, rfl, rfl, rfl⟩ | ⟨g1, g2, g3, g4, rfl, rfl, rfl, rfl⟩ | ⟨g1, g2, s, r, o, g3, g4, g5, g6, rfl, rfl, rfl, rfl⟩ | ⟨g1, g2, g3, g4, g5, rfl, rfl, rfl, rfl⟩ <;> simp
theorem GetRes.slots {S S' : LS} {x : Int} {slot : Nat} {fresh : Bool} {old : Int} {gone : Bool} {er : Int} (h : GetRes S x S' slot fresh old gone er) : S'.slots = S.slots := by
  rcases h with ⟨s, g1, rfl, -⟩ | ⟨g1, g2, rfl, -⟩ | ⟨g1, g2, s, r, o, g3, g4, rfl, -⟩ | ⟨g1, g2, g3, rfl, -⟩ <;> rfl
/-- behind the Lru's Get -/
structure GtW (w y : World) (lp p bm : Nat) (kv rv iv kv' rv' iv' : Value) (S' : LS) (ext size first written M : Nat) : Prop where
  box : y.heap[w.heap.size]? = some (.cells #[.int .i64 0, .int .i64 0, .int .i64 0] 48 (0, 0))
  lg : LgR y lp p bm kv' rv' iv' S' ext size first written
  ok : S'.Ok (M + 1)
  ch : Chg (GU lp p bm kv rv iv) w y
  lo : ∀ b, GU lp p bm kv' rv' iv' b → GU lp p bm kv rv iv b ∨ w.heap.size < b
  gl : ∀ b, GU lp p bm kv rv iv b → b < w.heap.size
theorem GtW.ne {w y : World} {lp p bm : Nat} {kv rv iv kv' rv' iv' : Value} {S' : LS} {ext size first written M : Nat} (h : GtW w y lp p bm kv rv iv kv' rv' iv' S' ext size first written M) : ¬ GU lp p bm kv' rv' iv' w.heap.size := fun e => by
  rcases h.lo _ e with e | e
  · have := h.gl _ e; omega
  · omega
theorem beg_old {w : World} {lp p bm M : Nat} {kv rv iv kv' rv' iv' : Value} {S S' : LS} {ext size first written : Nat} {x : Int} {y : World} (h : GtW w y lp p bm kv rv iv kv' rv' iv' S' ext size first written M) (hin : 0 ≤ x ∧ x < (ext : Int)) {slot : Nat} {old : Int} {gone : Bool} {er : Int} (hg : GetRes S x S' slot false old gone er) : BegP w lp p bm kv rv iv S ext size first written M x (.returned (.tuple #[.agg #[.int .i64 0, .int .i64 0, .int .i64 0], .slice none 0 0, .int .i64 er])) (((y.setCell ⟨w.heap.size, 0, none⟩ (.int .i64 0)).setCell ⟨w.heap.size, 1, none⟩ (.int .i64 0)).setCell ⟨w.heap.size, 2, none⟩ (.int .i64 0)) := by
  refine ⟨S', written, ⟨0, 0, 0, none, er⟩, .slice none 0 0, kv', rv', iv', rfl, .inr (.inl ⟨hin, slot, old, gone, er, hg, rfl, rfl⟩), rfl, h.lg.kept fun b e => ?_, h.ok, ?_, fun b e => (h.lo b e).imp id fun e => by omega⟩
  · have hne : b ≠ w.heap.size := fun e2 => h.ne (e2 ▸ e)
    rw [Go.heap_setCell_other _ _ _ _ hne, Go.heap_setCell_other _ _ _ _ hne, Go.heap_setCell_other _ _ _ _ hne]
  · refine ⟨h.ch.os, h.ch.tape, h.ch.output, by simp only [World.size_setCell]; exact h.ch.size, fun b hb hn => ?_⟩
    have hne : b ≠ w.heap.size := by omega
    rw [Go.heap_setCell_other _ _ _ _ hne, Go.heap_setCell_other _ _ _ _ hne, Go.heap_setCell_other _ _ _ _ hne]
    exact h.ch.keep b hb hn
/-- the world behind a new record -/
def nwW (w z : World) (lp : Nat) (n c0 c1 c2 : Value) : World := (((z.setCell ⟨lp, 4, none⟩ n).setCell ⟨w.heap.size, 0, none⟩ c0).setCell ⟨w.heap.size, 1, none⟩ c1).setCell ⟨w.heap.size, 2, none⟩ c2
theorem beg_new {w : World} {lp p bm M : Nat} {kv rv iv kv' rv' iv' : Value} {S S' : LS} {ext size first written : Nat} {x : Int} {y z : World} (h : GtW w y lp p bm kv rv iv kv' rv' iv' S' ext size first written M) (hin : 0 ≤ x ∧ x < (ext : Int)) {slot : Nat} {old : Int} {gone : Bool} {c2 : Int} (hc2 : c2 = if gone then old else -1) (hg : GetRes S x S' slot true old gone 0) (hz : Below y.heap.size y z) {g : Nat} (hgl : y.heap.size < g) (hgr : z.heap[g]? = some (.cells (byts (recOf S' size first written (slot : Int) x c2)) 5 (0, 0))) (hln : (recOf S' size first written (slot : Int) x c2).length = size) :
    BegP w lp p bm kv rv iv S ext size first written M x (.returned (.tuple #[.agg #[.int .i64 (slot : Int), .int .i64 x, .int .i64 c2], .slice (some ⟨g, 0, none⟩) size size, .int .i64 0])) (nwW w z lp (.int .i64 ((written + 1 : Nat) : Int)) (.int .i64 (slot : Int)) (.int .i64 x) (.int .i64 c2)) := by
  have hlpl := h.lg.lt lp (.inl rfl)
  have hbl := (Array.getElem?_eq_some_iff.1 h.box).1
  have hlp : lp ≠ w.heap.size := fun e => h.ne (e ▸ .inl rfl)
  have hk : ∀ b, b ≠ w.heap.size → b ≠ lp → (nwW w z lp (.int .i64 ((written + 1 : Nat) : Int)) (.int .i64 (slot : Int)) (.int .i64 x) (.int .i64 c2)).heap[b]? = z.heap[b]? := fun b h1 h2 => by
    unfold nwW
    rw [Go.heap_setCell_other _ _ _ _ h1, Go.heap_setCell_other _ _ _ _ h1, Go.heap_setCell_other _ _ _ _ h1, Go.heap_setCell_other _ _ _ _ h2]
  have hrow : (nwW w z lp (.int .i64 ((written + 1 : Nat) : Int)) (.int .i64 (slot : Int)) (.int .i64 x) (.int .i64 c2)).heap[lp]? = some (.cells #[.pointer (some ⟨p, 0, none⟩), .int .i64 (ext : Int), .int .i64 (size : Int), .int .u32 (first : Int), .int .i64 ((written + 1 : Nat) : Int)] 106 (0, 0)) := by
    unfold nwW
    rw [Go.heap_setCell_other _ _ _ _ hlp, Go.heap_setCell_other _ _ _ _ hlp, Go.heap_setCell_other _ _ _ _ hlp]
    exact Go.heap_setCell_same z lp 4 _ 106 _ ((hz.block lp hlpl).trans h.lg.row)
  have hgu : ¬ GU lp p bm kv' rv' iv' g := fun e => by have := h.lg.lt g e; omega
  have hs : (nwW w z lp (.int .i64 ((written + 1 : Nat) : Int)) (.int .i64 (slot : Int)) (.int .i64 x) (.int .i64 c2)).heap.size = z.heap.size := by unfold nwW; simp only [World.size_setCell]
  have hzs := hz.size
  have hcs := h.ch.size
  refine ⟨S', written + 1, ⟨(slot : Int), x, c2, some (recOf S' size first written (slot : Int) x c2), 0⟩, _, kv', rv', iv', rfl, .inr (.inr ⟨hin, slot, old, gone, hg, rfl, by rw [hc2]⟩), ⟨g, by rw [hln], (hk g (by omega) (by omega)).trans hgr, by omega, hgu⟩, ⟨hrow, h.lg.l.kept fun b e => ?_, h.lg.ap⟩, h.ok, ?_, fun b e => (h.lo b e).imp id fun e => by omega⟩
  · exact (hk b (fun e2 => h.ne (e2 ▸ .inr e)) (fun e2 => h.lg.ap (e2 ▸ e))).trans (hz.block b (h.lg.lt b (.inr e)))
  · refine ⟨?_, ?_, ?_, by rw [hs]; omega, fun b hb hn => ?_⟩
    · exact hz.os.trans h.ch.os
    · exact hz.tape.trans h.ch.tape
    · exact hz.output.trans h.ch.output
    · exact (hk b (by omega) (fun e => hn (.inl e))).trans ((hz.block b (by omega)).trans (h.ch.keep b hb hn))
theorem recOf_len {S' : LS} {size first written : Nat} {c0 c1 c2 : Int} (h : 128 ≤ size) : (recOf S' size first written c0 c1 c2).length = size := by
  unfold recOf recB recH
  simp [be_len]
  omega
set_option maxHeartbeats 2000000 in
theorem begin_any {w : World} {lp p bm M : Nat} {kv rv iv : Value} {S : LS} {ext size first written : Nat} (h : LgR w lp p bm kv rv iv S ext size first written) (hS : S.Ok M) (hM : M ≤ 4611686018427387904) (hw : written ≤ 1000000000000000) (hx4 : ext ≤ 1024) (hsz : size = 128 ∨ size = 256 ∨ size = 512 ∨ size = 1024) (x : Int) :
    Calls Try.prog 18 #[.pointer (some ⟨lp, 0, none⟩), .int .i64 x] w (BegP w lp p bm kv rv iv S ext size first written M x) := by
  have HB0 := hide ((Below.refl w.heap.size w).alloc (Nat.le_refl _) (.cells #[.int .i64 0, .int .i64 0, .int .i64 0] 48))
  have HL0 := hide (h.below HB0.out)
  have HH := hide fun y (hy : LgR y lp p bm kv rv iv S ext size first written) => lhas_any hy x
  by_cases hin : 0 ≤ x ∧ x < (ext : Int)
  case neg =>
    rw [decide_eq_false hin] at HH
    have HF : Hid (BegP w lp p bm kv rv iv S ext size first written M x (.returned (.tuple #[.agg #[.int .i64 0, .int .i64 0, .int .i64 0], .slice none 0 0, .int .i64 2])) (w.alloc (.cells #[.int .i64 0, .int .i64 0, .int .i64 0] 48))) := hide ⟨S, written, ⟨0, 0, 0, none, 2⟩, .slice none 0 0, kv, rv, iv, rfl, .inl ⟨hin, rfl, rfl, rfl⟩, rfl, HL0.out, ⟨hS.s1, hS.s2, hS.kl, hS.rl, hS.kd, hS.id, hS.im, hS.kb, fun r hr => Nat.le_trans (hS.rb r hr) (Nat.le_succ _), hS.me⟩, Chg.ofBelow HB0.out, fun b e => .inl e⟩
    clear h hS
    go_enter Try.func18, Try.ntmps18
    go_wp2_with (go_at_call 47; refine (HH.out _ HL0.out).mono ?_; rintro e y ⟨rfl, rfl⟩)
    exact bodyPost_ret (results_row_tmp2 (p := 4) (u := 5) (v := 6) rfl _ _ w.heap.size 48 _ (0, 0) _ rfl (Go.heap_alloc_new w _) Try.underlying48 rfl chgSize) rfl HF.out
  rw [decide_eq_true hin] at HH
  have HG := hide fun y (hy : LgR y lp p bm kv rv iv S ext size first written) => Get_any (key := x) hy.l hS hM (by unfold i64ok; omega)
  have c0 : (w.alloc (.cells #[.int .i64 0, .int .i64 0, .int .i64 0] 48)).cell? ⟨lp, 0, none⟩ = some (.pointer (some ⟨p, 0, none⟩)) := HL0.out.c 0
  have HGT : Hid (∀ y S' kv' rv' iv', LRep y p bm kv' rv' iv' S' → S'.Ok (M + 1) → Chg (LU p bm kv rv iv) (w.alloc (.cells #[.int .i64 0, .int .i64 0, .int .i64 0] 48)) y → LLoc (w.alloc (.cells #[.int .i64 0, .int .i64 0, .int .i64 0] 48)) p bm kv rv iv kv' rv' iv' → GtW w y lp p bm kv rv iv kv' rv' iv' S' ext size first written M) := hide fun y S' kv' rv' iv' hl ho hc hloc => by
    have hlt := h.lt
    refine ⟨(hc.keep w.heap.size (by simp) (fun e => by have := h.l.lt _ e; omega)).trans (Go.heap_alloc_new w _), HL0.out.turn hl hc hloc, ho, ?_, ?_, hlt⟩
    · exact (Chg.ofBelow HB0.out).trans (hc.mono fun b _ e => .inr e)
    · rintro b (e | e)
      · exact .inl (.inl e)
      · rcases hloc b e with e | e
        · exact .inl (.inr e)
        · simp at e; exact .inr (by omega)
  have HIN := hide hin
  have HMB := hide hM
  clear h hS hin
  go_enter Try.func18, Try.ntmps18
  go_wp2_with (first
    | (go_at_call 47; refine (HH.out _ HL0.out).mono ?_; rintro e y ⟨rfl, rfl⟩)
    | (go_at_call 48; refine (HG.out _ HL0.out).mono ?_; rintro e y ⟨S', slot, fresh, old, gone, er, kv', rv', iv', hg, rfl, hl, ho, hc, hloc⟩; have HGR := hide hg; have HY := hide (HGT.out _ _ _ _ _ hl ho hc hloc); have e0 : y.cell? ⟨w.heap.size, 0, none⟩ = some (.int .i64 0) := cell_of_row _ _ _ _ _ _ HY.out.box; have e1 : y.cell? ⟨w.heap.size, 1, none⟩ = some (.int .i64 0) := cell_of_row _ _ _ _ _ _ HY.out.box; have e2 : y.cell? ⟨w.heap.size, 2, none⟩ = some (.int .i64 0) := cell_of_row _ _ _ _ _ _ HY.out.box; have f0 : y.frozen? ⟨w.heap.size, 0, none⟩ = false := frozen_of_row _ _ _ _ 48 HY.out.box; have f1 : y.frozen? ⟨w.heap.size, 1, none⟩ = false := frozen_of_row _ _ _ _ 48 HY.out.box; have f2 : y.frozen? ⟨w.heap.size, 2, none⟩ = false := frozen_of_row _ _ _ _ 48 HY.out.box; clear hg hl ho hc hloc HG HH HL0 c0 HGT HB0; rcases HGR.out.cases with ⟨rfl, rfl, rfl⟩ | ⟨rfl, rfl, rfl⟩ | ⟨rfl, rfl, rfl⟩ | ⟨rfl, rfl, rfl⟩))
  · exact bodyPost_ret (results_row_tmp2 (p := 4) (u := 5) (v := 6) rfl _ _ w.heap.size 48 _ (0, 0) _ rfl (set3 HY.out.box _ _ _) Try.underlying48 rfl chgSize) rfl (beg_old HY.out HIN.out HGR.out)
  · exact bodyPost_ret (results_row_tmp2 (p := 4) (u := 5) (v := 6) rfl _ _ w.heap.size 48 _ (0, 0) _ rfl (set3 HY.out.box _ _ _) Try.underlying48 rfl chgSize) rfl (beg_old HY.out HIN.out HGR.out)
  · have HBY := hide ((Below.refl y.heap.size y).alloc (Nat.le_refl _) (.cells #[.int .i64 (slot : Int), .int .i64 x, .int .i64 (-1)] 48))
    have HSL := hide HGR.out.slots
    have hos1 := HY.out.ok.s1
    have hos2 := HY.out.ok.s2
    have HRC := hide fun z (hz : Below y.heap.size y z) => record_any (HY.out.lg.below hz) HY.out.ok hw (slot : Int) x (-1)
    have hsz2 : size ≤ 1024 ∧ 128 ≤ size := by omega
    have HBK := hide fun z => block_any z size ((first + written) % 4294967296) (min written 65535) S'.slots (slot : Int) x (-1) (written * 4 % S'.slots) (ctxL (rowL S') (written * 4 % S'.slots)) hsz (by omega) (by omega) (by omega) (by have := Nat.mod_lt (written * 4) (show 0 < S'.slots by omega); omega)
    have HBN := hide fun z (hz : Below y.heap.size y z) g (hgl : y.heap.size < g) hgr => beg_new (z := z) (g := g) HY.out HIN.out (c2 := (-1)) (by simp) HGR.out hz hgl hgr (recOf_len hsz2.2)
    have HCY := hide fun z (hz : Below y.heap.size y z) => And.intro ((HY.out.lg.below hz).c 4) (And.intro ((HY.out.lg.below hz).c 2) (And.intro (frozen_of_row z lp 4 _ 106 (HY.out.lg.below hz).row) ((hz.block _ (Array.getElem?_eq_some_iff.1 HY.out.box).1).trans HY.out.box)))
    have HCB : Hid (∀ z, Below (y.alloc (.cells #[.int .i64 (slot : Int), .int .i64 x, .int .i64 (-1)] 48)).heap.size (y.alloc (.cells #[.int .i64 (slot : Int), .int .i64 x, .int .i64 (-1)] 48)) z → z.heap[y.heap.size]? = some (.cells #[.int .i64 (slot : Int), .int .i64 x, .int .i64 (-1)] 48 (0, 0))) := hide fun z hz => (hz.block _ (by simp)).trans (Go.heap_alloc_new y _)
    generalize recA ((first + written) % 4294967296) (min written 65535) S'.slots (slot : Int) x (-1) (written * 4 % S'.slots) (ctxL (rowL S') (written * 4 % S'.slots)) = RA at *
    have k2 : (y.alloc (.cells #[.int .i64 (slot : Int), .int .i64 x, .int .i64 (-1)] 48)).cell? ⟨lp, 2, none⟩ = some (.int .i64 (size : Int)) := (HCY.out _ HBY.out).2.1
    have HB1 : Hid (Below (y.alloc (.cells #[.int .i64 (slot : Int), .int .i64 x, .int .i64 (-1)] 48)).heap.size (y.alloc (.cells #[.int .i64 (slot : Int), .int .i64 x, .int .i64 (-1)] 48)) (y.alloc (.cells #[.int .i64 (slot : Int), .int .i64 x, .int .i64 (-1)] 48)).drew) := hide (Below.refl _ _).drew
    have m0 : (y.alloc (.cells #[.int .i64 (slot : Int), .int .i64 x, .int .i64 (-1)] 48)).cell? ⟨y.heap.size, 0, none⟩ = some (.int .i64 (slot : Int)) := cell_of_row _ _ _ _ _ _ (Go.heap_alloc_new y _)
    have m1 : (y.alloc (.cells #[.int .i64 (slot : Int), .int .i64 x, .int .i64 (-1)] 48)).cell? ⟨y.heap.size, 1, none⟩ = some (.int .i64 x) := cell_of_row _ _ _ _ _ _ (Go.heap_alloc_new y _)
    have m2 : (y.alloc (.cells #[.int .i64 (slot : Int), .int .i64 x, .int .i64 (-1)] 48)).cell? ⟨y.heap.size, 2, none⟩ = some (.int .i64 (-1)) := cell_of_row _ _ _ _ _ _ (Go.heap_alloc_new y _)
    have hwr : IntKind.i64.wrap ((written : Int) + 1) = ((written + 1 : Nat) : Int) := by simp [IntKind.wrap, IntKind.bits, IntKind.signed]; omega
    clear e0 e1 e2 f0 f1 f2 hsz2
    go_region_held3 (fun z => z.cell? ⟨lp, 2, none⟩ = some (.int .i64 (size : Int)) ∧ z.cell? ⟨y.heap.size, 0, none⟩ = some (.int .i64 (slot : Int)) ∧ z.cell? ⟨y.heap.size, 1, none⟩ = some (.int .i64 x) ∧ z.cell? ⟨y.heap.size, 2, none⟩ = some (.int .i64 (-1))) (first | exact ⟨k2, m0, m1, m2⟩ | exact ⟨k3, n0, n1, n2⟩ | exact ⟨k4, r0, r1, r2⟩)
      (first
        | (go_at_call 49; refine (HRC.out _ (HBY.out.trans (HB1.out.mono HBY.out.size))).mono ?_; rintro e z2 ⟨rfl, hz⟩; have HZ2 := hide (HB1.out.trans (hz.mono HB1.out.size)); have k3 : z2.cell? ⟨lp, 2, none⟩ = some (.int .i64 (size : Int)) := (HCY.out _ (HBY.out.trans (HZ2.out.mono HBY.out.size))).2.1; have n0 : z2.cell? ⟨y.heap.size, 0, none⟩ = some (.int .i64 (slot : Int)) := cell_of_row _ _ _ _ _ _ (HCB.out _ HZ2.out); have n1 : z2.cell? ⟨y.heap.size, 1, none⟩ = some (.int .i64 x) := cell_of_row _ _ _ _ _ _ (HCB.out _ HZ2.out); have n2 : z2.cell? ⟨y.heap.size, 2, none⟩ = some (.int .i64 (-1)) := cell_of_row _ _ _ _ _ _ (HCB.out _ HZ2.out); clear hz)
        | (go_at_call 50; refine (HBK.out _).mono ?_; rintro e z3 ⟨rfl, hrow, hz⟩; have HZ3 := hide (HZ2.out.trans (hz.mono HZ2.out.size)); have HRW := hide hrow; have HGL : Hid (y.heap.size < z2.heap.size + 1) := hide (by have := HZ2.out.size; simp at this; omega); have k4 : z3.cell? ⟨lp, 2, none⟩ = some (.int .i64 (size : Int)) := (HCY.out _ (HBY.out.trans (HZ3.out.mono HBY.out.size))).2.1; have r0 : z3.cell? ⟨y.heap.size, 0, none⟩ = some (.int .i64 (slot : Int)) := cell_of_row _ _ _ _ _ _ (HCB.out _ HZ3.out); have r1 : z3.cell? ⟨y.heap.size, 1, none⟩ = some (.int .i64 x) := cell_of_row _ _ _ _ _ _ (HCB.out _ HZ3.out); have r2 : z3.cell? ⟨y.heap.size, 2, none⟩ = some (.int .i64 (-1)) := cell_of_row _ _ _ _ _ _ (HCB.out _ HZ3.out); clear hrow hz))
    have HZY := hide (HBY.out.trans (HZ3.out.mono HBY.out.size))
    obtain ⟨q4, -, fz4, bx⟩ := HCY.out _ HZY.out
    have q4' : z3.cell? ⟨lp, 4, none⟩ = some (.int .i64 (written : Int)) := q4
    have HBX := hide bx
    have e0 : z3.cell? ⟨w.heap.size, 0, none⟩ = some (.int .i64 0) := cell_of_row _ _ _ _ _ _ bx
    have e1 : z3.cell? ⟨w.heap.size, 1, none⟩ = some (.int .i64 0) := cell_of_row _ _ _ _ _ _ bx
    have e2 : z3.cell? ⟨w.heap.size, 2, none⟩ = some (.int .i64 0) := cell_of_row _ _ _ _ _ _ bx
    have f0 : z3.frozen? ⟨w.heap.size, 0, none⟩ = false := frozen_of_row _ _ _ _ 48 bx
    have f1 : z3.frozen? ⟨w.heap.size, 1, none⟩ = false := frozen_of_row _ _ _ _ 48 bx
    have f2 : z3.frozen? ⟨w.heap.size, 2, none⟩ = false := frozen_of_row _ _ _ _ 48 bx
    have hw0 := (Array.getElem?_eq_some_iff.1 HY.out.box).1
    have hw1 := HY.out.gl lp (.inl rfl)
    have ne1 : ¬ w.heap.size = lp := by omega
    have ne2 : ¬ lp = w.heap.size := by omega
    have ne3 : ¬ y.heap.size = lp := by omega
    have ne4 : ¬ y.heap.size = w.heap.size := by omega
    have ne5 : ¬ w.heap.size = y.heap.size := by omega
    have ne6 : ¬ lp = y.heap.size := by omega
    have HFIN := hide (HBN.out _ HZY.out _ HGL.out HRW.out)
    have HROW : Hid (∀ c : Value, (((z3.setCell ⟨lp, 4, none⟩ (.int .i64 ((written + 1 : Nat) : Int))).setCell ⟨w.heap.size, 0, none⟩ (.int .i64 (slot : Int))).setCell ⟨w.heap.size, 1, none⟩ (.int .i64 x)).setCell ⟨w.heap.size, 2, none⟩ c |>.heap[w.heap.size]? = some (.cells #[.int .i64 (slot : Int), .int .i64 x, c] 48 (0, 0))) := hide fun c => set3 ((Go.heap_setCell_other _ _ _ _ ne1).trans bx) _ _ _
    clear bx q4 hw0 hw1 HCY HCB HBN HRC HBK HY HB1 HZ2 HRW HGL
    have eW : ((written + 1 : Nat) : Int) = (written : Int) + 1 := by omega
    unfold nwW at HFIN
    rw [eW] at HFIN HROW
    clear eW
    go_wp2_with fail
    exact bodyPost_ret (results_row_tmp2 (p := 4) (u := 5) (v := 6) rfl _ _ w.heap.size 48 _ (0, 0) _ rfl (HROW.out _) Try.underlying48 rfl chgSize) rfl HFIN.out
  · have HBY := hide ((Below.refl y.heap.size y).alloc (Nat.le_refl _) (.cells #[.int .i64 (slot : Int), .int .i64 x, .int .i64 old] 48))
    have HSL := hide HGR.out.slots
    have hos1 := HY.out.ok.s1
    have hos2 := HY.out.ok.s2
    have HRC := hide fun z (hz : Below y.heap.size y z) => record_any (HY.out.lg.below hz) HY.out.ok hw (slot : Int) x old
    have hsz2 : size ≤ 1024 ∧ 128 ≤ size := by omega
    have HBK := hide fun z => block_any z size ((first + written) % 4294967296) (min written 65535) S'.slots (slot : Int) x old (written * 4 % S'.slots) (ctxL (rowL S') (written * 4 % S'.slots)) hsz (by omega) (by omega) (by omega) (by have := Nat.mod_lt (written * 4) (show 0 < S'.slots by omega); omega)
    have HBN := hide fun z (hz : Below y.heap.size y z) g (hgl : y.heap.size < g) hgr => beg_new (z := z) (g := g) HY.out HIN.out (c2 := old) (by simp) HGR.out hz hgl hgr (recOf_len hsz2.2)
    have HCY := hide fun z (hz : Below y.heap.size y z) => And.intro ((HY.out.lg.below hz).c 4) (And.intro ((HY.out.lg.below hz).c 2) (And.intro (frozen_of_row z lp 4 _ 106 (HY.out.lg.below hz).row) ((hz.block _ (Array.getElem?_eq_some_iff.1 HY.out.box).1).trans HY.out.box)))
    have HCB : Hid (∀ z, Below (y.alloc (.cells #[.int .i64 (slot : Int), .int .i64 x, .int .i64 old] 48)).heap.size (y.alloc (.cells #[.int .i64 (slot : Int), .int .i64 x, .int .i64 old] 48)) z → z.heap[y.heap.size]? = some (.cells #[.int .i64 (slot : Int), .int .i64 x, .int .i64 old] 48 (0, 0))) := hide fun z hz => (hz.block _ (by simp)).trans (Go.heap_alloc_new y _)
    generalize recA ((first + written) % 4294967296) (min written 65535) S'.slots (slot : Int) x old (written * 4 % S'.slots) (ctxL (rowL S') (written * 4 % S'.slots)) = RA at *
    have k2 : (y.alloc (.cells #[.int .i64 (slot : Int), .int .i64 x, .int .i64 old] 48)).cell? ⟨lp, 2, none⟩ = some (.int .i64 (size : Int)) := (HCY.out _ HBY.out).2.1
    have HB1 : Hid (Below (y.alloc (.cells #[.int .i64 (slot : Int), .int .i64 x, .int .i64 old] 48)).heap.size (y.alloc (.cells #[.int .i64 (slot : Int), .int .i64 x, .int .i64 old] 48)) (y.alloc (.cells #[.int .i64 (slot : Int), .int .i64 x, .int .i64 old] 48)).drew) := hide (Below.refl _ _).drew
    have m0 : (y.alloc (.cells #[.int .i64 (slot : Int), .int .i64 x, .int .i64 old] 48)).cell? ⟨y.heap.size, 0, none⟩ = some (.int .i64 (slot : Int)) := cell_of_row _ _ _ _ _ _ (Go.heap_alloc_new y _)
    have m1 : (y.alloc (.cells #[.int .i64 (slot : Int), .int .i64 x, .int .i64 old] 48)).cell? ⟨y.heap.size, 1, none⟩ = some (.int .i64 x) := cell_of_row _ _ _ _ _ _ (Go.heap_alloc_new y _)
    have m2 : (y.alloc (.cells #[.int .i64 (slot : Int), .int .i64 x, .int .i64 old] 48)).cell? ⟨y.heap.size, 2, none⟩ = some (.int .i64 old) := cell_of_row _ _ _ _ _ _ (Go.heap_alloc_new y _)
    have hwr : IntKind.i64.wrap ((written : Int) + 1) = ((written + 1 : Nat) : Int) := by simp [IntKind.wrap, IntKind.bits, IntKind.signed]; omega
    clear e0 e1 e2 f0 f1 f2 hsz2
    go_region_held3 (fun z => z.cell? ⟨lp, 2, none⟩ = some (.int .i64 (size : Int)) ∧ z.cell? ⟨y.heap.size, 0, none⟩ = some (.int .i64 (slot : Int)) ∧ z.cell? ⟨y.heap.size, 1, none⟩ = some (.int .i64 x) ∧ z.cell? ⟨y.heap.size, 2, none⟩ = some (.int .i64 old)) (first | exact ⟨k2, m0, m1, m2⟩ | exact ⟨k3, n0, n1, n2⟩ | exact ⟨k4, r0, r1, r2⟩)
      (first
        | (go_at_call 49; refine (HRC.out _ (HBY.out.trans (HB1.out.mono HBY.out.size))).mono ?_; rintro e z2 ⟨rfl, hz⟩; have HZ2 := hide (HB1.out.trans (hz.mono HB1.out.size)); have k3 : z2.cell? ⟨lp, 2, none⟩ = some (.int .i64 (size : Int)) := (HCY.out _ (HBY.out.trans (HZ2.out.mono HBY.out.size))).2.1; have n0 : z2.cell? ⟨y.heap.size, 0, none⟩ = some (.int .i64 (slot : Int)) := cell_of_row _ _ _ _ _ _ (HCB.out _ HZ2.out); have n1 : z2.cell? ⟨y.heap.size, 1, none⟩ = some (.int .i64 x) := cell_of_row _ _ _ _ _ _ (HCB.out _ HZ2.out); have n2 : z2.cell? ⟨y.heap.size, 2, none⟩ = some (.int .i64 old) := cell_of_row _ _ _ _ _ _ (HCB.out _ HZ2.out); clear hz)
        | (go_at_call 50; refine (HBK.out _).mono ?_; rintro e z3 ⟨rfl, hrow, hz⟩; have HZ3 := hide (HZ2.out.trans (hz.mono HZ2.out.size)); have HRW := hide hrow; have HGL : Hid (y.heap.size < z2.heap.size + 1) := hide (by have := HZ2.out.size; simp at this; omega); have k4 : z3.cell? ⟨lp, 2, none⟩ = some (.int .i64 (size : Int)) := (HCY.out _ (HBY.out.trans (HZ3.out.mono HBY.out.size))).2.1; have r0 : z3.cell? ⟨y.heap.size, 0, none⟩ = some (.int .i64 (slot : Int)) := cell_of_row _ _ _ _ _ _ (HCB.out _ HZ3.out); have r1 : z3.cell? ⟨y.heap.size, 1, none⟩ = some (.int .i64 x) := cell_of_row _ _ _ _ _ _ (HCB.out _ HZ3.out); have r2 : z3.cell? ⟨y.heap.size, 2, none⟩ = some (.int .i64 old) := cell_of_row _ _ _ _ _ _ (HCB.out _ HZ3.out); clear hrow hz))
    have HZY := hide (HBY.out.trans (HZ3.out.mono HBY.out.size))
    obtain ⟨q4, -, fz4, bx⟩ := HCY.out _ HZY.out
    have q4' : z3.cell? ⟨lp, 4, none⟩ = some (.int .i64 (written : Int)) := q4
    have HBX := hide bx
    have e0 : z3.cell? ⟨w.heap.size, 0, none⟩ = some (.int .i64 0) := cell_of_row _ _ _ _ _ _ bx
    have e1 : z3.cell? ⟨w.heap.size, 1, none⟩ = some (.int .i64 0) := cell_of_row _ _ _ _ _ _ bx
    have e2 : z3.cell? ⟨w.heap.size, 2, none⟩ = some (.int .i64 0) := cell_of_row _ _ _ _ _ _ bx
    have f0 : z3.frozen? ⟨w.heap.size, 0, none⟩ = false := frozen_of_row _ _ _ _ 48 bx
    have f1 : z3.frozen? ⟨w.heap.size, 1, none⟩ = false := frozen_of_row _ _ _ _ 48 bx
    have f2 : z3.frozen? ⟨w.heap.size, 2, none⟩ = false := frozen_of_row _ _ _ _ 48 bx
    have hw0 := (Array.getElem?_eq_some_iff.1 HY.out.box).1
    have hw1 := HY.out.gl lp (.inl rfl)
    have ne1 : ¬ w.heap.size = lp := by omega
    have ne2 : ¬ lp = w.heap.size := by omega
    have ne3 : ¬ y.heap.size = lp := by omega
    have ne4 : ¬ y.heap.size = w.heap.size := by omega
    have ne5 : ¬ w.heap.size = y.heap.size := by omega
    have ne6 : ¬ lp = y.heap.size := by omega
    have HFIN := hide (HBN.out _ HZY.out _ HGL.out HRW.out)
    have HROW : Hid (∀ c : Value, (((z3.setCell ⟨lp, 4, none⟩ (.int .i64 ((written + 1 : Nat) : Int))).setCell ⟨w.heap.size, 0, none⟩ (.int .i64 (slot : Int))).setCell ⟨w.heap.size, 1, none⟩ (.int .i64 x)).setCell ⟨w.heap.size, 2, none⟩ c |>.heap[w.heap.size]? = some (.cells #[.int .i64 (slot : Int), .int .i64 x, c] 48 (0, 0))) := hide fun c => set3 ((Go.heap_setCell_other _ _ _ _ ne1).trans bx) _ _ _
    clear bx q4 hw0 hw1 HCY HCB HBN HRC HBK HY HB1 HZ2 HRW HGL
    have eW : ((written + 1 : Nat) : Int) = (written : Int) + 1 := by omega
    unfold nwW at HFIN
    rw [eW] at HFIN HROW
    clear eW
    go_wp2_with fail
    exact bodyPost_ret (results_row_tmp2 (p := 4) (u := 5) (v := 6) rfl _ _ w.heap.size 48 _ (0, 0) _ rfl (HROW.out _) Try.underlying48 rfl chgSize) rfl HFIN.out
end Go.Proofs.Ytlkccencilhacaa
