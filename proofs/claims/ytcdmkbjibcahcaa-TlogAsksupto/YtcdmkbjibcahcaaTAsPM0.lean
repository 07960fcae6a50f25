import Derived.Test.YtcdmkbjibcahcaaTHp
import Derived.Test.YtcdmkbjibcahcaaTMade
import Derived.Test.YtcdmkbjibcahcaaTOps
import Derived.Test.YtcdmkbjibcahcaaRows
import Derived.Shelf.SortM.Plain
import Derived.Shelf.SortM.SortNone
import Derived.Ground.SlgmProg
import Derived.Shelf.SlGeneric
import Derived.Lib.OwnBridge
import Derived.Test.YtcdmkbjibcahcaaTUm
import Derived.Maps.RangeWalk
import Derived.Test.YtcdmkbjibcahcaaTMb
import Derived.Test.YtcdmkbjibcahcaaTML
namespace Go.Proofs.Ytcdmkbjibcahcaa
open Go.RowKit
set_option linter.unusedVariables false
set_option linter.unusedSimpArgs false
set_option maxRecDepth 20000

/-- how many writes of a list's first j have that epoch -/
def cntE (l : List En) (x : Int) : Nat := (l.map fun y => y.2.2).count x
theorem cntE_succ {l : List En} {j : Nat} {x : Int} (h : j < l.length) : cntE (l.take (j + 1)) x = cntE (l.take j) x + if (l.getD j e0).2.2 = x then 1 else 0 := by
  unfold cntE
  rw [List.take_add_one, List.map_append, List.count_append]
  have e : l[j]? = some (l.getD j e0) := by simp [List.getD, h]
  rw [e]
  simp only [Option.toList_some, List.map_cons, List.map_nil, List.count_singleton, beq_iff_eq]
theorem cntE_le (l : List En) (x : Int) : cntE l x ≤ l.length := by
  unfold cntE
  have := List.count_le_length (a := x) (l := l.map fun y => y.2.2)
  simpa using this
set_option maxHeartbeats 1000000 in
theorem lOldest_any (w : World) (v : Value) (l : List En) (h : ERow w v l) (hn : l ≠ []) : Calls Try.prog 21 #[v] w fun e w' => e = .returned (.tuple #[.int .i64 (l.getD 0 e0).2.2, .int .i64 (cntE l (l.getD 0 e0).2.2 : Int)]) ∧ ∃ m, w' = w.drewN m := by
  obtain ⟨a, c, rfl, b1, b2, hc⟩ := h.form
  unfold maxLen at b2
  have hpos : 0 < l.length := List.length_pos_iff.2 hn
  have hne : ((l.length : Int) == 0) = false := by rw [beq_eq_false_iff_ne]; omega
  obtain ⟨g, off, rfl, _, _, _, f2⟩ := hc 0 hpos
  simp only [Nat.zero_mul, Nat.add_zero] at f2
  have HC : Hid (∀ j, j < l.length → w.cell? ⟨g, off + j * 3 + 2, none⟩ = some (.int .i64 (l.getD j e0).2.2)) := hide fun j hj => by
    obtain ⟨g', off', e, _, _, _, d⟩ := hc j hj
    simp only [Option.some.injEq, Addr.mk.injEq] at e
    obtain ⟨rfl, rfl, -⟩ := e
    exact d
  have HS : Hid (∀ j, j < l.length → cntE (l.take (j + 1)) (l.getD 0 e0).2.2 = cntE (l.take j) (l.getD 0 e0).2.2 + if (l.getD j e0).2.2 = (l.getD 0 e0).2.2 then 1 else 0) := hide fun j hj => cntE_succ hj
  have HL : Hid (∀ j, cntE (l.take j) (l.getD 0 e0).2.2 ≤ j) := hide fun j => Nat.le_trans (cntE_le _ _) (List.length_take_le _ _)
  have HT : Hid (cntE (l.take l.length) (l.getD 0 e0).2.2 = cntE l (l.getD 0 e0).2.2) := hide (by rw [List.take_length])
  have H0 : Hid (cntE (l.take 0) (l.getD 0 e0).2.2 = 0) := hide rfl
  clear h hc hn
  generalize cntE l (l.getD 0 e0).2.2 = R at *
  generalize hx : (l.getD 0 e0).2.2 = x at *
  generalize l.length = n at *
  go_enter Try.func21, Try.ntmps21
  go_wp2_with fail
  go_loopw [4, 5] (fun z i wr => ∃ j : Nat, j ≤ n ∧ i = .int .i64 (j : Int) ∧ z = .int .i64 (cntE (l.take j) x : Int) ∧ ∃ m, wr = w.drewN m) (fun _ i _ => n - (intOf i).toNat)
  case atStart => exact ⟨0, Nat.zero_le _, rfl, by rw [H0.out]; rfl, 0, rfl⟩
  case round =>
    obtain ⟨j, hj, rfl, rfl, m0, rfl⟩ := hrel
    by_cases hlt : j < n
    · have d2 := HC.out j hlt
      have hs := HS.out j hlt
      have hle := HL.out j
      generalize cntE (l.take j) x = z at *
      by_cases hxy : (l.getD j e0).2.2 = x
      · rw [if_pos hxy] at hs
        rw [hxy] at d2
        have HZ := hide hs
        clear HC HS HL hs hxy HT H0
        go_wp2_with fail
        try go_quiet (fail)
        try go_wp2_with fail
        go_roundw
        case rel => exact ⟨j + 1, by omega, by go_num, by rw [HZ.out]; go_num, _, rfl⟩
        case measure => simp [intOf]; omega
      · rw [if_neg hxy] at hs
        have HZ := hide hs
        have hne2 : ((l.getD j e0).2.2 == x) = false := by simpa using hxy
        generalize (l.getD j e0).2.2 = y at *
        clear HC HS HL hs hxy HT H0
        go_wp2_with fail
        try go_quiet (fail)
        try go_wp2_with fail
        go_roundw
        case rel => exact ⟨j + 1, by omega, by go_num, by rw [HZ.out]; go_num, _, rfl⟩
        case measure => simp [intOf]; omega
    · have ej : j = n := by omega
      subst ej
      have hR := HT.out
      rw [hR]
      clear HC HS HL HT H0 hR
      go_wp2_with fail
      (try simp only [Exit.inBlock, Exit.then]); refine bodyPost_ret (results_tmp2 rfl _ _ _) rfl ?_
      exact ⟨rfl, _, rfl⟩
set_option maxHeartbeats 1000000 in
theorem lOldest_nil (w : World) (v : Value) (h : ERow w v []) : Calls Try.prog 21 #[v] w fun e w' => e = .returned (.tuple #[.int .i64 0, .int .i64 0]) ∧ ∃ m, w' = w.drewN m := by
  obtain ⟨a, c, rfl, b1, b2, hc⟩ := h.form
  simp only [List.length_nil] at *
  clear h hc
  go_enter Try.func21, Try.ntmps21
  go_wp2_with fail
  (try simp only [Exit.inBlock, Exit.then]); refine bodyPost_ret (results_tmp2 rfl _ _ _) rfl ?_
  exact ⟨rfl, 0, rfl⟩
end Go.Proofs.Ytcdmkbjibcahcaa
namespace Go.Proofs.Ytcdmkbjibcahcaa
open Go.RowKit
set_option linter.unusedVariables false
set_option linter.unusedSimpArgs false

def OpV.row (s : OpV) : Array Value := #[.int .i64 s.kind, .int .i64 s.of, .int .i64 s.a, .int .i64 s.b]
/-- a log, a list of writes and an operation's box beside it -/
structure R3 (w x : World) (p bm : Nat) (v : Value) (S : LS) (N : Nat) (iv : Value) (l : List En) (g : Nat) (s : OpV) : Prop where
  r2 : R2 w x p bm v S N iv l
  bx : x.heap[g]? = some (.cells s.row 29 (0, 0))
  ng : ¬ LU p bm v g
  ni : iv.ownBlock ≠ some g
  og : w.heap.size ≤ g
section
variable {w x y z : World} {p bm : Nat} {v v' iv iv' : Value} {S S' : LS} {N N' : Nat} {l l' : List En} {g : Nat} {s : OpV}
theorem R3.lt (h : R3 w x p bm v S N iv l g s) : g < x.heap.size := (Array.getElem?_eq_some_iff.1 h.bx).1
theorem R3.start (h : R2 w x p bm v S N iv l) (s : OpV) : R3 w (x.alloc (.cells s.row 29)) p bm v S N iv l x.heap.size s :=
  ⟨h.below (below_alloc x _), Go.heap_alloc_new x _, fun e => by have := h.al.rep.lt _ e; omega, fun e => by have := h.lst.lt e; omega, h.al.bel.size⟩
theorem R3.move (h : R3 w x p bm v S N iv l g s) (a : AL w y p bm v' S' N') (m : Mv x y p bm v v') : R3 w y p bm v' S' N' iv l g s :=
  ⟨h.r2.move a m, (m.chg.keep g h.lt h.ng).trans h.bx, fun e => by
    rcases m.loc g e with q | q
    · exact h.ng q
    · have := h.lt; omega, h.ni, h.og⟩
theorem R3.below (h : R3 w x p bm v S N iv l g s) (hb : Below x.heap.size x y) : R3 w y p bm v S N iv l g s := h.move (h.r2.al.below hb) (Mv.ofBelow hb)
theorem R3.app (h : R3 w x p bm v S N iv l g s) (hx : Below x.heap.size x z) (ha : App z y iv iv') (he : ERow y iv' l') : R3 w y p bm v S N iv' l' g s := by
  have h2 := h.below hx
  refine ⟨h.r2.app hx ha he, (ha.chg.keep g h2.lt h2.ni).trans h2.bx, h2.ng, fun e => ?_, h2.og⟩
  rcases ha.loc g e with q | q
  · exact h2.ni q
  · have := h2.lt; omega
theorem R3.sub (h : R3 w x p bm v S N iv l g s) (he : ERow x iv' l') (hs : ∀ g, iv'.ownBlock = some g → iv.ownBlock = some g) : R3 w x p bm v S N iv' l' g s := ⟨h.r2.sub he hs, h.bx, h.ng, fun e => h.ni (hs g e), h.og⟩
theorem R3.c (h : R3 w x p bm v S N iv l g s) : (x.cell? ⟨g, 0, none⟩ = some (.int .i64 s.kind) ∧ x.cell? ⟨g, 1, none⟩ = some (.int .i64 s.of)) ∧ (x.cell? ⟨g, 2, none⟩ = some (.int .i64 s.a) ∧ x.cell? ⟨g, 3, none⟩ = some (.int .i64 s.b)) ∧ x.frozen? ⟨g, 2, none⟩ = false ∧ x.frozen? ⟨g, 3, none⟩ = false :=
  ⟨⟨by rw [cell_of_row _ _ _ _ _ _ h.bx]; rfl, by rw [cell_of_row _ _ _ _ _ _ h.bx]; rfl⟩, ⟨by rw [cell_of_row _ _ _ _ _ _ h.bx]; rfl, by rw [cell_of_row _ _ _ _ _ _ h.bx]; rfl⟩, frozen_of_row _ _ _ _ 29 h.bx, frozen_of_row _ _ _ _ 29 h.bx⟩
theorem R3.set (h : R3 w x p bm v S N iv l g s) (i : Nat) (u : Value) (s' : OpV) (hs : s.row.setIfInBounds i u = s'.row) : R3 w (x.setCell ⟨g, i, none⟩ u) p bm v S N iv l g s' := by
  have kp : ∀ b, b ≠ g → (x.setCell ⟨g, i, none⟩ u).heap[b]? = x.heap[b]? := fun b hb => Go.heap_setCell_other _ _ _ _ hb
  have hbx := Go.heap_setCell_same x g i _ 29 u h.bx
  rw [hs] at hbx
  refine ⟨⟨⟨h.r2.al.rep.kept fun b e => kp b fun e2 => h.ng (e2 ▸ e), ?_, h.r2.al.own, h.r2.al.ok, h.r2.al.nw, h.r2.al.tot⟩, h.r2.lst.kept fun b e => kp b fun e2 => h.ni (e2 ▸ e), h.r2.own, h.r2.ap⟩, hbx, h.ng, h.ni, h.og⟩
  have hb := h.r2.al.bel
  have ho := h.og
  refine ⟨hb.os, hb.tape, hb.output, by rw [World.size_setCell]; exact hb.size, fun b hlt => (kp b (by omega)).trans (hb.block b hlt)⟩
theorem R3.more (h : R3 w x p bm v S N iv l g s) (hn : N ≤ N') : R3 w x p bm v S N' iv l g s := ⟨⟨h.r2.al.more hn, h.r2.lst, h.r2.own, h.r2.ap⟩, h.bx, h.ng, h.ni, h.og⟩
end
/-- the script's operation i, in a later world -/
theorem ops_at {w : World} {sa : Option Addr} {os : List OpV} (s3 : 0 < os.length → ∃ b off, sa = some ⟨b, off, none⟩ ∧ ∀ i (h : i < os.length), (w.cell? ⟨b, off + i * 4, none⟩ = some (.int .i64 os[i].kind) ∧ w.cell? ⟨b, off + i * 4 + 1, none⟩ = some (.int .i64 os[i].of)) ∧ w.cell? ⟨b, off + i * 4 + 2, none⟩ = some (.int .i64 os[i].a) ∧ w.cell? ⟨b, off + i * 4 + 3, none⟩ = some (.int .i64 os[i].b)) (hok : ∀ s ∈ os, s.ok) {i : Nat} (hi : i < os.length) :
    ∃ (b off : Nat) (s : OpV), sa = some ⟨b, off, none⟩ ∧ s.ok ∧ ∀ x, Below w.heap.size w x → (x.cell? ⟨b, off + i * 4, none⟩ = some (.int .i64 s.kind) ∧ x.cell? ⟨b, off + i * 4 + 1, none⟩ = some (.int .i64 s.of)) ∧ x.cell? ⟨b, off + i * 4 + 2, none⟩ = some (.int .i64 s.a) ∧ x.cell? ⟨b, off + i * 4 + 3, none⟩ = some (.int .i64 s.b) := by
  obtain ⟨b, off, e, hc⟩ := s3 (by omega)
  have hlt := World.block_lt_of_cell? w _ (hc i hi).1.1
  refine ⟨b, off, os[i], e, hok _ (List.getElem_mem hi), fun x hb => ?_⟩
  obtain ⟨⟨c0, c1⟩, c2, c3⟩ := hc i hi
  exact ⟨⟨(below_cell hb hlt _).trans c0, (below_cell hb hlt _).trans c1⟩, (below_cell hb hlt _).trans c2, (below_cell hb hlt _).trans c3⟩
end Go.Proofs.Ytcdmkbjibcahcaa
namespace Go.Proofs.Ytcdmkbjibcahcaa
open Go.RowKit
set_option linter.unusedVariables false
set_option linter.unusedSimpArgs false
set_option maxRecDepth 20000

/-- the writes as the law books them: their ids alone -/
def idl (S : LS) : List En := (ids S.ls).map fun i => (i, 0, 0)
theorem idl_len (S : LS) : (idl S).length = S.es.length := by simp [idl, ids, LS.es]
theorem idl_add (S : LS) (oa ob : Int) : idl (addS S oa ob) = idl S ++ [(oa, 0, 0)] := by simp [idl, ids, addS]
theorem idl_leave (S : LS) (k : Nat) : idl (leaveS S k) = (idl S).drop k := by simp [idl, ids, leaveS]
theorem idl_close (S : LS) : idl (closeS S) = idl S := by unfold idl; rw [closeS_ls]
theorem idl_fail (S : LS) : idl (failS S) = [] := by unfold idl; rw [failS_ls]; rfl
theorem fail_join {S : LS} : joinN (failS S) = 0 := by unfold joinN; rw [failS_es]; rfl
/-- is a write with this id in the list? -/
def hasB (l : List En) (o : Int) : Bool := l.any fun x => x.1 == o
theorem hasB_idl (S : LS) (o : Int) : hasB (idl S) o = decide (o ∈ ids S.ls) := by
  rw [Bool.eq_iff_iff]
  simp [hasB, idl]
set_option maxHeartbeats 1000000 in
theorem has_any (w : World) (v : Value) (l : List En) (o : Int) (h : ERow w v l) : Calls Try.prog 12 #[v, .int .i64 o] w fun e w' => e = .returned (.bool (hasB l o)) ∧ w' = w := by
  obtain ⟨a1, c1, rfl, b1, b2, hc⟩ := h.form
  unfold maxLen at b2
  have HC : Hid (∀ j, j < l.length → ∃ g off, a1 = some ⟨g, off, none⟩ ∧ w.cell? ⟨g, off + j * 3, none⟩ = some (.int .i64 (l.getD j e0).1)) := hide fun j hj => by
    obtain ⟨g, off, e, _, d, _⟩ := hc j hj
    exact ⟨g, off, e, d⟩
  have HY : Hid (∀ j, j < l.length → (l.getD j e0).1 = o → hasB l o = true) := hide fun j hj e => by
    unfold hasB
    rw [List.any_eq_true]
    exact ⟨l.getD j e0, by simp [List.getD, hj], by simpa using e⟩
  have HNO : Hid ((∀ j, j < l.length → (l.getD j e0).1 ≠ o) → hasB l o = false) := hide fun h => by
    unfold hasB
    rw [List.any_eq_false]
    intro x hx
    obtain ⟨j, hj, e⟩ := List.mem_iff_getElem.1 hx
    have := h j hj
    simp [List.getD, hj, e] at this
    simpa using this
  clear hc h
  generalize l.length = n at *
  generalize hasB l o = R at *
  go_enter Try.func12, Try.ntmps12
  go_wp2_with fail
  go_loopw [5] (fun x wr => ∃ j : Nat, j ≤ n ∧ x = .int .i64 (j : Int) ∧ wr = w ∧ ∀ i, i < j → (l.getD i e0).1 ≠ o) (fun x _ => n - (intOf x).toNat)
  case atStart => exact ⟨0, Nat.zero_le _, rfl, rfl, fun i hi => by omega⟩
  case round =>
    obtain ⟨j, hj, rfl, rfl, hz⟩ := hrel
    have HZ := hide hz
    clear hz
    by_cases hlt : j < n
    · obtain ⟨g, off, rfl, d1⟩ := HC.out j hlt
      by_cases hxy : (l.getD j e0).1 = o
      · have hR := HY.out j hlt hxy
        subst hR
        rw [hxy] at d1
        clear HC HY HNO HZ hxy
        go_wp2_with fail
        go_ret
        exact ⟨rfl, rfl⟩
      · have HN : Hid (∀ i, i < j + 1 → (l.getD i e0).1 ≠ o) := hide fun i hi => by
          by_cases e : i = j
          · rw [e]; exact hxy
          · exact HZ.out i (by omega)
        have hne : ((l.getD j e0).1 == o) = false := by simpa using hxy
        clear hxy HZ HC HY HNO
        generalize (l.getD j e0).1 = x at *
        go_wp2_with fail
        go_roundw
        case rel => exact ⟨j + 1, by omega, by go_num, trivial, HN.out⟩
        case measure => simp [intOf]; omega
    · have ej : j = n := by omega
      subst ej
      have hR := HNO.out HZ.out
      subst hR
      clear HC HY HNO HZ
      go_wp2_with fail
      go_ret
      exact ⟨rfl, rfl⟩
end Go.Proofs.Ytcdmkbjibcahcaa
namespace Go.Proofs.Ytcdmkbjibcahcaa
open Go.RowKit
set_option linter.unusedVariables false
set_option linter.unusedSimpArgs false
set_option maxRecDepth 20000

/-- a list of numbers, the law's own -/
def IRow (w : World) (v : Value) (l : List Int) : Prop := w.ownsRow 0 3 1 v l.length (l.map fun z => Value.int .i64 z)
theorem IRow.kept {w w' : World} {v : Value} {l : List Int} (h : IRow w v l) (hk : ∀ g, v.ownBlock = some g → w'.heap[g]? = w.heap[g]?) : IRow w' v l := rowKept h hk
theorem IRow.lt {w : World} {v : Value} {l : List Int} (h : IRow w v l) {g : Nat} (hg : v.ownBlock = some g) : g < w.heap.size := (World.ownsRow.lt h g hg).2
theorem IRow.cell {w : World} {v : Value} {l : List Int} (h : IRow w v l) {j : Nat} (hj : j < l.length) : ∃ g cap, v = .slice (some ⟨g, 0, none⟩) l.length cap ∧ l.length ≤ cap ∧ cap ≤ maxLen ∧ w.cell? ⟨g, j, none⟩ = some (.int .i64 (l.getD j 0)) := by
  have h' : w.ownsRow 0 3 1 v l.length (l.map fun z => Value.int .i64 z) := h
  have h2 := h'
  rcases h'.2 with ⟨_, e⟩ | ⟨g, cap, cur, rfl, _, hg, q1, q2, _⟩
  · omega
  · refine ⟨g, cap, rfl, q1, q2, ?_⟩
    rw [h2.cellAt j (by simpa using hj)]
    simp [List.getD, hj]
theorem IRow.form {w : World} {v : Value} {l : List Int} (h : IRow w v l) : ∃ a cap, v = .slice a l.length cap ∧ l.length ≤ cap ∧ cap ≤ maxLen := rowForm h
theorem Try.infoIn : (Try.prog.info? 3).map (fun i => (i.zero, i.size, i.bytes)) = some (some (.int .i64 0), 1, 8) := by kernel_rfl
theorem infoI : ∃ i, Try.prog.info? 3 = some i ∧ i.zero = some (.int .i64 0) ∧ i.size = 1 ∧ i.bytes = 8 := by
  have h := Try.infoIn
  cases hi : Try.prog.info? 3 with
  | none => rw [hi] at h; simp at h
  | some i => rw [hi] at h; simp at h; exact ⟨i, rfl, h.1, h.2.1, h.2.2⟩
/-- a log and a list of numbers beside it -/
structure RS (w x : World) (p bm : Nat) (v : Value) (S : LS) (N : Nat) (sv : Value) (l : List Int) : Prop where
  al : AL w x p bm v S N
  lst : IRow x sv l
  own : ∀ g, sv.ownBlock = some g → w.heap.size ≤ g
  ap : ∀ g, sv.ownBlock = some g → ¬ LU p bm v g
section
variable {w x y z : World} {p bm : Nat} {v v' sv sv' : Value} {S S' : LS} {N N' : Nat} {l l' : List Int}
theorem RS.move (h : RS w x p bm v S N sv l) (a : AL w y p bm v' S' N') (m : Mv x y p bm v v') : RS w y p bm v' S' N' sv l :=
  ⟨a, h.lst.kept fun g e => m.chg.keep g (h.lst.lt e) (h.ap g e), h.own, fun g e hu => by
    rcases m.loc g hu with q | q
    · exact h.ap g e q
    · have := h.lst.lt e; omega⟩
theorem RS.below (h : RS w x p bm v S N sv l) (hb : Below x.heap.size x y) : RS w y p bm v S N sv l := h.move (h.al.below hb) (Mv.ofBelow hb)
theorem RS.more (h : RS w x p bm v S N sv l) (hn : N ≤ N') : RS w x p bm v S N' sv l := ⟨h.al.more hn, h.lst, h.own, h.ap⟩
theorem RS.app (h : RS w x p bm v S N sv l) (hx : Below x.heap.size x z) (hu : Upon z y sv sv') (he : IRow y sv' l') : RS w y p bm v S N sv' l' := by
  have h2 := h.below hx
  have hlt := h2.al.rep.lt
  have hc : Chg (fun g => sv.ownBlock = some g) z y := ⟨hu.same.1, hu.same.2.1, hu.same.2.2, hu.size, fun g hg hn => hu.block g hg hn⟩
  refine ⟨⟨h2.al.rep.kept fun g e => hc.keep g (hlt g e) fun q => h2.ap g q e, h2.al.bel.trans (hc.below h2.al.bel.size h2.own), h2.al.own, h2.al.ok, h2.al.nw, h2.al.tot⟩, he, fun g e => ?_, fun g e q => ?_⟩
  · rcases hu.loc g e with q | q
    · exact h2.own g q
    · rw [q]; exact h2.al.bel.size
  · rcases hu.loc g e with q2 | q2
    · exact h2.ap g q2 q
    · have := hlt g q; omega
theorem RS.one (h : AL w x p bm v S N) : RS w (x.alloc (.cells #[.int .i64 0] 3)) p bm v S N (.slice (some ⟨x.heap.size, 0, none⟩) 1 1) [0] := by
  refine ⟨h.below (below_alloc x _), ⟨rfl, .inr ⟨x.heap.size, 1, #[.int .i64 0], rfl, Nat.zero_le _, Go.heap_alloc_new x _, Nat.le_refl _, by unfold maxLen; omega, rfl, rfl⟩⟩, fun g e => ?_, fun g e q => ?_⟩
  · simp [Value.ownBlock] at e; rw [← e]; exact h.bel.size
  · simp [Value.ownBlock] at e; have := h.rep.lt g q; omega
end
/-- the law's book: which epochs have left, which are closed, how many writes each had -/
structure Sz (S : LS) (lf sh : Nat) (sz : List Int) : Prop where
  nw : S.now = sh + 1
  old : oldE S = (lf : Int) + 1
  len : sz.length = sh + 1
  le : lf ≤ sh
  cnt : ∀ e : Nat, lf < e → e ≤ sh → sz.getD e 0 = (S.eps.count (e : Int) : Int)
theorem Sz.new (lim ep : Nat) : Sz (newS lim ep) 0 0 [0] := ⟨rfl, rfl, rfl, Nat.le_refl _, fun e h1 h2 => by omega⟩
theorem Sz.fail (S : LS) : Sz (failS S) 0 0 [0] := ⟨rfl, by rw [old_nil (failS_es S)]; rfl, rfl, Nat.le_refl _, fun e h1 h2 => by omega⟩
theorem Sz.add {S : LS} {lf sh : Nat} {sz : List Int} (h : Sz S lf sh sz) (oa ob : Int) (ho : oldE (addS S oa ob) = oldE S) : Sz (addS S oa ob) lf sh sz :=
  ⟨h.nw, by rw [ho]; exact h.old, h.len, h.le, fun e h1 h2 => by
    have hz : List.count (e : Int) [((sh + 1 : Nat) : Int)] = 0 := List.count_eq_zero.2 (by simp; omega)
    rw [addS_eps, List.count_append, h.cnt e h1 h2, h.nw, hz]
    simp⟩
theorem Sz.close {S : LS} {lf sh : Nat} {sz : List Int} (h : Sz S lf sh sz) (ok : S.Ok) (hj : joinN S ≠ 0) : Sz (closeS S) lf (sh + 1) (sz ++ [(joinN S : Int)]) := by
  have he : (closeS S).eps = S.eps := by unfold LS.eps; rw [closeS_es]
  refine ⟨by rw [closeS_now, if_neg hj, h.nw], by rw [closeS_old ok]; exact h.old, by simp [h.len], Nat.le_succ_of_le h.le, fun e h1 h2 => ?_⟩
  rw [he]
  by_cases hs : e = sh + 1
  · subst hs
    rw [joinN_eq ok, h.nw]
    simp [List.getD, h.len]
  · rw [← h.cnt e h1 (by omega)]
    have : e < sz.length := by rw [h.len]; omega
    simp [List.getD, this, List.getElem?_append_left this]
theorem Sz.leave {S : LS} {lf sh : Nat} {sz : List Int} (h : Sz S lf sh sz) (ok : S.Ok) (hl : lf < sh) : Sz (leaveS S (frontN S)) (lf + 1) sh sz := by
  have hn : oldE S ≠ (S.now : Int) := by rw [h.old, h.nw]; omega
  refine ⟨h.nw, by rw [leave_old ok hn, h.old]; omega, h.len, hl, fun e h1 h2 => ?_⟩
  rw [leave_eps, count_dropWhile, h.cnt e (by omega) h2]
  rw [← oldE_eq, h.old]
  omega
theorem Sz.bar {S : LS} {lf sh : Nat} {sz : List Int} (h : Sz S lf sh sz) (ok : S.Ok) (hl : lf < sh) : barB S ((lf : Int) + 1) (sz.getD (lf + 1) 0) = true := by
  have hn : oldE S ≠ (S.now : Int) := by rw [h.old, h.nw]; omega
  have hne : S.es ≠ [] := fun e => hn (old_nil e)
  refine barB_mk hn h.old.symm ?_
  rw [h.cnt (lf + 1) (by omega) hl, front_count ok hne, h.old]
  rfl
/-- what the asks say -/
theorem Sz.nil {S : LS} {lf sh : Nat} {sz : List Int} (h : Sz S lf sh sz) (ok : S.Ok) : S.es = [] ↔ lf = sh ∧ joinN S = 0 := by
  constructor
  · intro e
    have h1 := old_nil e
    rw [h.old, h.nw] at h1
    exact ⟨by omega, by unfold joinN; rw [e]; rfl⟩
  · rintro ⟨e1, e2⟩
    apply Classical.byContradiction
    intro hne
    have ho : oldE S = (S.now : Int) := by rw [h.old, h.nw, e1]; omega
    have hp := front_pos hne
    rw [front_count ok hne, ho, ← joinN_eq ok] at hp
    omega
theorem Sz.settled {S : LS} {lf sh : Nat} {sz : List Int} (h : Sz S lf sh sz) (ok : S.Ok) (z : Int) : (decide (S.es.length = 0) || decide (z < (S.es.getD 0 e0).2.2)) = ((decide (lf = sh) && decide (joinN S = 0)) || decide (z < (lf : Int) + 1 ∧ ¬ (lf = sh ∧ joinN S = 0))) := by
  by_cases hn : S.es = []
  · have := (h.nil ok).1 hn
    rw [hn]
    simp [this]
  · have h2 : ¬ (lf = sh ∧ joinN S = 0) := fun e => hn ((h.nil ok).2 e)
    have h3 : S.es.length ≠ 0 := fun e => hn (List.length_eq_zero_iff.1 e)
    rw [← old_cons hn, h.old, decide_eq_false h3, ← Bool.decide_and, decide_eq_false h2]
    simp only [Bool.false_or, h2, not_false_eq_true, and_true]
end Go.Proofs.Ytcdmkbjibcahcaa
namespace Go.Proofs
open Go.Shelf
def Try.sortA_ren : Go.Shelf.Ren := ⟨fun | 5 => 43 | 8 => 54 | 7 => 53 | 19 => 64 | 20 => 65 | 10 => 55 | 11 => 56 | 12 => 57 | 13 => 58 | 14 => 59 | 15 => 60 | 16 => 61 | 17 => 62 | 18 => 63 | 30 => 66 | 31 => 67 | 32 => 68 | 33 => 69 | 34 => 70 | 35 => 71 | 40 => 72 | n => n, fun | 23 => 44 | 25 => 3 | 3 => 3 | 32 => 87 | 22 => 44 | 0 => 0 | 44 => 97 | 46 => 99 | 4 => 4 | 36 => 90 | 35 => 89 | 41 => 94 | 5 => 5 | 9 => 9 | 53 => 100 | 57 => 104 | 63 => 106 | 64 => 48 | n => n, fun | n => n⟩
theorem Try.sortA : Go.Proofs.SlLaysM.n5 Try.prog Try.sortA_ren := {
  mixed := by kernel_rfl
  f5 := ⟨Try.f43.name, by decide, Try.func43.trans (congrArg some (by kernel_rfl))⟩
  f7 := ⟨Try.f53.name, by decide, Try.func53.trans (congrArg some (by kernel_rfl))⟩
  f8 := Try.func54.trans (congrArg some (by kernel_rfl))
  f10 := ⟨Try.f55.name, by decide, Try.func55.trans (congrArg some (by kernel_rfl))⟩
  f11 := ⟨Try.f56.name, by decide, Try.func56.trans (congrArg some (by kernel_rfl))⟩
  f12 := ⟨Try.f57.name, by decide, Try.func57.trans (congrArg some (by kernel_rfl))⟩
  f13 := ⟨Try.f58.name, by decide, Try.func58.trans (congrArg some (by kernel_rfl))⟩
  f14 := ⟨Try.f59.name, by decide, Try.func59.trans (congrArg some (by kernel_rfl))⟩
  f15 := ⟨Try.f60.name, by decide, Try.func60.trans (congrArg some (by kernel_rfl))⟩
  f16 := ⟨Try.f61.name, by decide, Try.func61.trans (congrArg some (by kernel_rfl))⟩
  f17 := ⟨Try.f62.name, by decide, Try.func62.trans (congrArg some (by kernel_rfl))⟩
  f18 := ⟨Try.f63.name, by decide, Try.func63.trans (congrArg some (by kernel_rfl))⟩
  f19 := Try.func64.trans (congrArg some (by kernel_rfl))
  f20 := Try.func65.trans (congrArg some (by kernel_rfl))
  f30 := ⟨Try.f66.name, by decide, Try.func66.trans (congrArg some (by kernel_rfl))⟩
  f31 := Try.func67.trans (congrArg some (by kernel_rfl))
  f32 := Try.func68.trans (congrArg some (by kernel_rfl))
  f33 := ⟨Try.f69.name, by decide, Try.func69.trans (congrArg some (by kernel_rfl))⟩
  f34 := ⟨Try.f70.name, by decide, Try.func70.trans (congrArg some (by kernel_rfl))⟩
  f35 := ⟨Try.f71.name, by decide, Try.func71.trans (congrArg some (by kernel_rfl))⟩
  f40 := ⟨Try.f72.name, by decide, Try.func72.trans (congrArg some (by kernel_rfl))⟩
  t0 := Try.underlying0
  a0 := Try.isAgg0
  z0 := Try.sizeOf0
  v0 := Try.zeroValue0
  t3 := Try.underlying3
  a3 := Try.isAgg3
  z3 := Try.sizeOf3
  v3 := Try.zeroValue3
  t4 := Try.underlying4
  a4 := Try.isAgg4
  z4 := Try.sizeOf4
  v4 := Try.zeroValue4
  t5 := Try.underlying5
  a5 := Try.isAgg5
  z5 := Try.sizeOf5
  v5 := Try.zeroValue5
  t9 := Try.underlying9
  a9 := Try.isAgg9
  z9 := Try.sizeOf9
  v9 := Try.zeroValue9
  t22 := Try.underlying44
  a22 := Try.isAgg44
  z22 := Try.sizeOf44
  v22 := Try.zeroValue44
  t23 := Try.underlying44
  a23 := Try.isAgg44
  z23 := Try.sizeOf44
  v23 := Try.zeroValue44
  t25 := Try.underlying3
  a25 := Try.isAgg3
  z25 := Try.sizeOf3
  v25 := Try.zeroValue3
  t32 := Try.underlying87
  a32 := Try.isAgg87
  z32 := Try.sizeOf87
  v32 := Try.zeroValue87
  t35 := Try.underlying89
  a35 := Try.isAgg89
  z35 := Try.sizeOf89
  v35 := Try.zeroValue89
  t36 := Try.underlying90
  a36 := Try.isAgg90
  z36 := Try.sizeOf90
  v36 := Try.zeroValue90
  t41 := Try.underlying94
  a41 := Try.isAgg94
  z41 := Try.sizeOf94
  v41 := Try.zeroValue94
  t44 := Try.underlying97
  a44 := Try.isAgg97
  z44 := Try.sizeOf97
  v44 := Try.zeroValue97
  t46 := Try.underlying99
  a46 := Try.isAgg99
  z46 := Try.sizeOf99
  v46 := Try.zeroValue99
  t53 := Try.underlying100
  a53 := Try.isAgg100
  z53 := Try.sizeOf100
  v53 := Try.zeroValue100
  t57 := Try.underlying104
  a57 := Try.isAgg104
  z57 := Try.sizeOf104
  v57 := Try.zeroValue104
  t63 := Try.underlying106
  a63 := Try.isAgg106
  z63 := Try.sizeOf106
  v63 := Try.zeroValue106
  t64 := Try.underlying48
  a64 := Try.isAgg48
  z64 := Try.sizeOf48
  v64 := Try.zeroValue48 }
end Go.Proofs
namespace Go.Proofs.Ytcdmkbjibcahcaa
open Go.RowKit Go.Maps Go.Sort Go.Shelf
set_option linter.unusedVariables false
set_option linter.unusedSimpArgs false
set_option maxRecDepth 20000

theorem sort_any (w : World) (v : Value) (T : List Int) (h : IRow w v T) (hl : T.length ≤ 5000) : Calls Try.prog 43 #[v] w fun e w' => e = .returned (.tuple #[]) ∧ IRow w' v (T.mergeSort fun x y => decide (x ≤ y)) ∧ Chg (fun g => v.ownBlock = some g) w w' := by
  have h' : w.ownsRow 0 3 1 v T.length (T.map fun z => Value.int .i64 z) := h
  by_cases hv : v = .slice none 0 0
  · subst hv
    have e0 : T = [] := by
      have := h'.2
      rcases this with ⟨_, e⟩ | ⟨g, cap, cur, e, _⟩
      · exact List.length_eq_zero_iff.1 e
      · cases e
    subst e0
    refine (AnyM.slices_Sort_int_none Try.sortA none 0 w).mono ?_
    rintro e w' ⟨rfl, rfl⟩
    exact ⟨rfl, by rw [List.mergeSort_nil]; exact h, Chg.refl _ _⟩
  · obtain ⟨g, cap, rfl, -, hlt, hn, hm, -, hH⟩ := Lib.holds_of_ownsRow h' hv
    refine (AnyM.slices_Sort_int Try.sortA g 0 cap T w hH hlt (by omega)).mono ?_
    rintro e w' ⟨rfl, n, os, rfl⟩
    have hp := Lib.ownsRow_putRow (q := n) (k := T.length) (ys := T.mergeSort fun x y => decide (x ≤ y)) h' (by simp) (Nat.le_refl _)
    rw [List.take_of_length_le (by simp)] at hp
    have hsz : (putRow (Value.int .i64) (Sort.ahead w n) g 0 (T.mergeSort fun x y => decide (x ≤ y)).toArray).heap.size = w.heap.size := by simp [putRow, mapBlock, Sort.ahead]
    have hgr : ∀ (b : Nat), b < w.heap.size → (grow (putRow (Value.int .i64) (Sort.ahead w n) g 0 (T.mergeSort fun x y => decide (x ≤ y)).toArray) os).heap[b]? = (putRow (Value.int .i64) (Sort.ahead w n) g 0 (T.mergeSort fun x y => decide (x ≤ y)).toArray).heap[b]? := fun b hb => by
      show (_ ++ os)[b]? = _
      rw [Array.getElem?_append_left (by rw [hsz]; exact hb)]
    refine ⟨rfl, ?_, ⟨rfl, rfl, rfl, ?_, fun b hb hne => ?_⟩⟩
    · have hi : IRow (putRow (Value.int .i64) (Sort.ahead w n) g 0 (T.mergeSort fun x y => decide (x ≤ y)).toArray) (.slice (some ⟨g, 0, none⟩) T.length cap) (T.mergeSort fun x y => decide (x ≤ y)) := by
        unfold IRow
        rw [List.length_mergeSort]
        exact hp
      refine hi.kept fun b eb => hgr b ?_
      simp [Value.ownBlock] at eb
      omega
    · show w.heap.size ≤ (_ ++ os).size
      rw [Array.size_append, hsz]
      omega
    · rw [hgr b hb]
      have : g ≠ b := fun e => hne (by simp [Value.ownBlock, e])
      simp [putRow, mapBlock, Sort.ahead, Array.getElem?_modify, this]
end Go.Proofs.Ytcdmkbjibcahcaa
namespace Go.Proofs.Ytcdmkbjibcahcaa
open Go.RowKit
set_option linter.unusedVariables false
set_option linter.unusedSimpArgs false
set_option maxRecDepth 20000

/-- the map is gone through: what has come lies in a list of the call's own -/
structure UI (w wr : World) (bm n : Nat) (D : DataW Unit) (gone : Nat) (ls : Ls) (left : Lit → Bool) (cnt : Nat) (T : List Int) (tv : Value) : Prop where
  rg : wr.ranges Try.prog 3 stR bm w.heap.size n D left cnt
  ti : TI gone ls left T
  row : IRow wr tv T
  own : ∀ g, tv.ownBlock = some g → w.heap.size < g
  sub : ∀ kl, left kl = true → Maps.has D kl = true
  bel : Below w.heap.size w wr
  lt : bm < w.heap.size
theorem IRow.nil (w : World) : IRow w (.slice none 0 0) [] := ⟨rfl, .inl ⟨rfl, rfl⟩⟩
theorem IRow.below {w w' : World} {v : Value} {l : List Int} (h : IRow w v l) (hb : Below w.heap.size w w') : IRow w' v l := h.kept fun g e => hb.block g (h.lt e)
theorem below_grown {w x y : World} {row : Option Nat} (h : Below w.heap.size w x) (hg : x.grownBy y row) (hr : ∀ g, row = some g → w.heap.size ≤ g) : Below w.heap.size w y :=
  ⟨hg.os.trans h.os, hg.tape.trans h.tape, hg.output.trans h.output, Nat.le_trans h.size hg.size, fun b hb => (hg.block b (Nat.lt_of_lt_of_le hb h.size) (fun e => by have := hr b e.symm; omega)).trans (h.block b hb)⟩
section
variable {w wr y : World} {bm n gone cnt cnt' : Nat} {D : DataW Unit} {ls : Ls} {left left' : Lit → Bool} {T T' : List Int} {tv tv' : Value}
theorem UI.start {w0 : World} (h1 : ∀ (i : Nat) (x : En × Bool), ls[i]? = some x → Maps.has D (kL x.1.1) = true ∧ ∀ z, D.atKey (kL x.1.1) z = stD ((gone + i : Nat) : Int) x.2) (hrg : w0.ranges Try.prog 3 stR bm w.heap.size n D (Maps.has D) (Maps.size D)) (hg : w.grownBy w0 none) (hlt : bm < w.heap.size) : UI w w0 bm n D gone ls (Maps.has D) (Maps.size D) [] (.slice none 0 0) :=
  ⟨hrg, TI.start h1, IRow.nil _, fun g e => by simp [Value.ownBlock] at e, fun _ h => h, below_grown (Below.refl _ _) hg (fun g e => by cases e), hlt⟩
theorem UI.next {w1 : World} (h : UI w wr bm n D gone ls left cnt T tv) (hd : (ids ls).Nodup) (hrg : w1.ranges Try.prog 3 stR bm w.heap.size n D left' cnt') (hg : wr.grownBy w1 (some w.heap.size)) {x : En} {a : Bool} {i : Nat} (hx : ls[i]? = some (x, a)) (hl : left (kL x.1) = true) (hle : left' = fun z => left z && !z.sameKey (kL x.1)) :
    w1.ranges Try.prog 3 stR bm w.heap.size n D left' cnt' ∧ TI gone ls left' (if a then T else T ++ [((gone + i : Nat) : Int)]) ∧ IRow w1 tv T ∧ (∀ g, tv.ownBlock = some g → w.heap.size < g) ∧ (∀ kl, left' kl = true → Maps.has D kl = true) ∧ Below w.heap.size w w1 := by
  subst hle
  refine ⟨hrg, h.ti.step hd hx hl, h.row.kept fun g e => ?_, h.own, fun kl hk => h.sub kl ?_, below_grown h.bel hg (fun g e => by simp at e; omega)⟩
  · have := h.own g e
    exact hg.block g (h.row.lt e) (fun e2 => by simp at e2; omega)
  · simp at hk; exact hk.1
/-- an allocation beside it -/
theorem UI.below (h : UI w wr bm n D gone ls left cnt T tv) (hb : Below wr.heap.size wr y) : UI w y bm n D gone ls left cnt T tv := by
  have hg : wr.grownBy y none := ⟨hb.os, hb.tape, hb.output, hb.size, fun b hlt _ => hb.block b hlt⟩
  exact ⟨h.rg.kept hg (by simp) (by simp), h.ti, h.row.kept fun g e => hb.block g (h.row.lt e), h.own, h.sub, h.bel.trans (hb.mono h.bel.size), h.lt⟩
theorem UI.more {w1 : World} {x : Int} {c : Int × Bool} {kl : Lit} {yy : DataW Unit × List MemPlace} (h : UI w wr bm n D gone ls left cnt T tv) (hd : (ids ls).Nodup) (h1 : ∀ (i : Nat) (x : En × Bool), ls[i]? = some x → Maps.has D (kL x.1.1) = true ∧ ∀ z, D.atKey (kL x.1.1) z = stD ((gone + i : Nat) : Int) x.2) (h2 : ∀ key, key ∉ ls.map (fun x => x.1.1) → Maps.has D (kL key) = false)
    (hk : keyOf Try.prog 3 (.int .i64 x) = some kl) (hlk : left kl = true) (hv : stR (stV c.1 c.2) = some yy) (hat : ∀ zd, D.atKey kl zd = yy.1) (hrg : w1.ranges Try.prog 3 stR bm w.heap.size n D (fun z => left z && !z.sameKey kl) cnt') (hg : wr.grownBy w1 (some w.heap.size)) :
    (c.2 = true → ∃ left', UI w w1 bm n D gone ls left' cnt' T tv) ∧ (c.2 = false → IRow w1 tv T ∧ ∃ left', ∀ z y tv', Below w1.heap.size w1 z → Upon z y tv tv' → IRow y tv' (T ++ [c.1]) → UI w y bm n D gone ls left' cnt' (T ++ [c.1]) tv') := by
  obtain ⟨t, a⟩ := c
  obtain ⟨x', ex, rfl, hwx⟩ := Maps.keyOf_int_inv Try.underlying3 hk
  cases ex
  rw [stR_mk] at hv
  obtain rfl := Option.some.inj hv
  obtain ⟨i, e, hx, he, rfl⟩ := TI.find h1 h2 (h.sub _ hlk) hat
  subst he
  obtain ⟨q1, q2, q3, q4, q5, q6⟩ := h.next hd hrg hg hx hlk rfl
  refine ⟨fun ea => ?_, fun ea => ⟨q3, (fun z => left z && !z.sameKey (kL e.1)), fun z y tv' hb hu hr => ?_⟩⟩
  · simp only at ea
    subst ea
    exact ⟨_, q1, q2, q3, q4, q5, q6, h.lt⟩
  · simp only at ea
    subst ea
    have hlt := q1.lt
    have hz : w.heap.size < z.heap.size := Nat.lt_of_lt_of_le hlt hb.size
    have hg1 : w1.grownBy z none := ⟨hb.os, hb.tape, hb.output, hb.size, fun b hlt _ => hb.block b hlt⟩
    have hg2 : z.grownBy y tv.ownBlock := ⟨hu.same.1, hu.same.2.1, hu.same.2.2, hu.size, fun b hb hn => hu.block b hb (fun e => hn e.symm)⟩
    refine ⟨(q1.kept hg1 (by simp) (by simp)).kept hg2 ?_ (fun e => ?_), q2, hr, fun g e => ?_, q5, below_grown (below_grown q6 hg1 (fun g e => by cases e)) hg2 (fun g e => Nat.le_of_lt (q4 g e)), h.lt⟩
    · exact fun e => by have := q4 _ e.symm; have := h.lt; omega
    · have := q4 _ e.symm; omega
    · rcases hu.loc g e with q | q
      · exact q4 g q
      · omega
end
/-- the turns in order, and what is told so far -/
structure UT (w wr : World) (gone : Nat) (ls : Ls) (tv lv : Value) (j : Nat) : Prop where
  row : IRow wr tv (tnsL gone ls)
  to : ERow wr lv ((una ls).take j)
  own : ∀ g, lv.ownBlock = some g → w.heap.size ≤ g
  ap : ∀ g, lv.ownBlock = some g → tv.ownBlock ≠ some g
  bel : Below w.heap.size w wr
theorem UT.start {w wr y : World} {bm n gone cnt : Nat} {D : DataW Unit} {ls : Ls} {left : Lit → Bool} {T : List Int} {tv : Value} (h : UI w wr bm n D gone ls left cnt T tv) (h1 : IRow y tv (tnsL gone ls)) (h2 : Chg (fun g => tv.ownBlock = some g) wr y) : UT w y gone ls tv (.slice none 0 0) 0 :=
  ⟨h1, ERow.nil _, fun g e => by simp [Value.ownBlock] at e, fun g e => by simp [Value.ownBlock] at e, h.bel.trans (h2.below h.bel.size fun g e => Nat.le_of_lt (h.own g e))⟩
theorem UT.below {w wr y : World} {gone j : Nat} {ls : Ls} {tv lv : Value} (h : UT w wr gone ls tv lv j) (hb : Below wr.heap.size wr y) : UT w y gone ls tv lv j :=
  ⟨h.row.below hb, h.to.below hb, h.own, h.ap, h.bel.trans (hb.mono h.bel.size)⟩
theorem UT.app {w wr z y : World} {gone j : Nat} {ls : Ls} {tv lv lv' : Value} (h : UT w wr gone ls tv lv j) (hb : Below wr.heap.size wr z) (ha : App z y lv lv') (he : ERow y lv' ((una ls).take (j + 1))) : UT w y gone ls tv lv' (j + 1) := by
  have h2 := h.below hb
  refine ⟨h2.row.kept fun g e => ha.chg.keep g (h2.row.lt e) fun q => h2.ap g q e, he, fun g e => ?_, fun g e q => ?_, h2.bel.trans (ha.chg.below h2.bel.size h2.own)⟩
  · rcases ha.loc g e with q | q
    · exact h2.own g q
    · exact Nat.le_trans h2.bel.size q
  · rcases ha.loc g e with q2 | q2
    · exact h2.ap g q2 q
    · have := h2.row.lt q; omega
theorem invK_int (key : Value) (kl : Lit) (h : keyOf Try.prog 3 key = some kl) : ∃ x : Int, key = .int .i64 x := by
  obtain ⟨x, rfl, -⟩ := Maps.keyOf_int_inv Try.underlying3 h
  exact ⟨x, rfl⟩
theorem invV_st (v : Value) (y : DataW Unit × List MemPlace) (h : stR v = some y) : ∃ c : Int × Bool, v = stV c.1 c.2 := by
  obtain ⟨t, a, e, -⟩ := stR_inv h
  exact ⟨(t, a), e⟩
set_option maxHeartbeats 4000000 in
theorem Unacked_any (w : World) (p bm : Nat) (v : Value) (S : LS) (h : LRep w p bm v S) (hnd : (ids S.ls).Nodup) (hl : S.es.length ≤ 2000) (hg : S.gone ≤ 16000000000000) : Calls Try.prog 27 #[.pointer (some ⟨p, 0, none⟩)] w fun e w' =>
    ∃ lv, e = .returned lv ∧ ERow w' lv (una S.ls) ∧ (∀ g, lv.ownBlock = some g → w.heap.size ≤ g) ∧ Below w.heap.size w w' := by
  have HH := hide h
  obtain ⟨D, hown, hDs, hD1, hD2⟩ := h.mp
  have c4 := h.c4
  have HD1 := hide hD1
  have HD2 := hide hD2
  have HND := hide hnd
  have HL := hide hl
  have HG := hide hg
  clear h hD1 hD2 hDs hnd hl hg
  go_enter Try.func27, Try.ntmps27
  go_wp2_with (first
    | (at_range; refine wpList_range_own _ rfl _ 66 rfl 3 70 kInt Try.underlying66 stR bm S.ls.length D rfl hown ?_; intro w0 hrg0 hg0 hs0) | go_in)
  go_frame
  have HUI := hide (UI.start HD1.out hrg0 hg0 hown.lt)
  clear hrg0 hg0 hs0 hown c4
  go_loopw [3] (fun tv wr => ∃ (left : Lit → Bool) (cnt : Nat) (T : List Int), UI w wr bm S.ls.length D S.gone S.ls left cnt T tv) (fun _ wr => wr.rangeLeft bm w.heap.size)
  case atStart => exact ⟨_, _, _, HUI.out⟩
  case round =>
    clear HUI
    obtain ⟨left, cnt, T, hU⟩ := hrel
    obtain ⟨ta, tc, e3, i1, i2⟩ := hU.row.form
    have HU := hide hU
    have hrg := hU.rg
    subst e3
    clear hU
    have hlen := HU.out.ti.len
    have HBN : Hid (T.length + 1 ≤ maxLen ∧ ((T.length + 1) + (T.length + 1) / 4 + 192) * 8 ≤ 281474976710656) := hide (by have := HL.out; rw [LS.es_len] at this; unfold maxLen; omega)
    obtain ⟨i0, hi0, hz0, hz1, hz2⟩ := infoI
    go_wp2_with (first
      | (at_next; refine wpList_next_ranges _ rfl _ rfl 3 kInt stR (Value.int .i64) (fun c : Int × Bool => stV c.1 c.2) invK_int invV_st bm w.heap.size S.ls.length D left cnt rfl hrg (fun hc0 hl0 => ?_) (fun x c kl y w1 cnt1 hk hlk hv hat hrg1 hlt hg1 hs1 hen => ?more); case' more => (have HM := hide (HU.out.more HND.out HD1.out HD2.out hk hlk hv hat hrg1 hg1); clear hk hlk hv hat hg1 hs1; obtain ⟨t, a⟩ := c; unfold stV at hen ⊢; simp only at hen HM ⊢; cases a))
      | (at_builtin; refine wpList_appendC _ rfl (.tmp 21) (.tmp 24) 44 rfl 3 i0 (.int .i64 0) 1 8 Try.underlying44 hi0 hz0 hz1 hz2 rfl (by decide) _ _ _ rfl ((HM.out.2 rfl).1.below (below_alloc2 w1 _ _)) ⟨(w1.alloc (.cells #[.int .i64 t, .bool false] 70)).heap.size, 0, none⟩ 1 1 [.int .i64 t] (by first | rfl | simp [Act.eval, Act.put]) rfl (by decide) (cells_new _ #[.int .i64 t] _ _ rfl) (by simp [Value.oneCell']) HBN.out.1 HBN.out.2 ?_; intro v6 w6 q1 q2; obtain ⟨left', hU'⟩ := (HM.out.2 rfl).2; have HUN := hide (hU' _ _ _ (below_alloc2 w1 _ _) q2 (by unfold IRow; rw [List.length_append, List.map_append]; exact q1)); clear q1 q2 hU' HM))
    case roundEnd => exact ⟨⟨_, _, _, HUN.out⟩, by rw [HUN.out.rg.left_eq, hrg.left_eq]; exact hlt⟩
    case roundEnd =>
      obtain ⟨left', h⟩ := HM.out.1 rfl
      have h2 := h.below (below_alloc w1 (.cells #[.int .i64 t, .bool true] 70))
      exact ⟨⟨_, _, _, h2⟩, by rw [h2.rg.left_eq, hrg.left_eq]; exact hlt⟩
    have HSRT := hide (sort_any wr _ T HU.out.row (by have := HL.out; rw [LS.es_len] at this; omega))
    rw [HU.out.ti.done hl0] at HSRT
    go_wp2_with (go_at_call 43; refine HSRT.out.mono ?_; rintro e w2 ⟨rfl, q1, q2⟩; have HT := hide (UT.start HU.out q1 q2); clear q1 q2 HSRT)
    clear HU hrg HD1 HD2 HND HBN hlen hl0 hc0
    have HTL := hide (tns_len S.gone S.ls)
    obtain ⟨ra, rc, er, r1, r2⟩ := HT.out.row.form
    rw [HTL.out] at er r1
    generalize hn : (una S.ls).length = n at *
    have hnl : n ≤ 2000 := by have := HL.out; rw [LS.es_len] at this; have := una_le S.ls; omega
    simp only [Value.slice.injEq] at er
    obtain ⟨rfl, hTn, rfl⟩ := er
    rw [hTn] at HT ⊢
    go_loopw [6, 30] (fun lv x wr => ∃ j : Nat, j ≤ n ∧ x = .int .i64 (j : Int) ∧ UT w wr S.gone S.ls (.slice ta n tc) lv j) (fun _ x _ => n - (intOf x).toNat)
    case atStart => exact ⟨0, Nat.zero_le _, rfl, HT.out⟩
    case round =>
      clear HT
      obtain ⟨j, hj, rfl, hT⟩ := hrel
      have HT := hide hT
      by_cases hlt : j < n
      · obtain ⟨i, hi, ht1, ht2⟩ := tns_at S.gone S.ls j (by omega)
        obtain ⟨g, cap, eg, g1, g2, hcell⟩ := hT.row.cell (j := j) (by rw [HTL.out]; omega)
        simp only [Value.slice.injEq] at eg
        obtain ⟨rfl, -, rfl⟩ := eg
        rw [ht1] at hcell
        have HAT := hide (at_any wr p bm v S (HH.out.below hT.bel) HL.out HG.out i (by rw [LS.es_len]; exact hi))
        rw [show S.es.getD i e0 = (una S.ls).getD j e0 from ht2] at HAT
        have HTK : Hid ((una S.ls).take j ++ [(una S.ls).getD j e0] = (una S.ls).take (j + 1)) := hide (by rw [List.take_add_one]; simp [List.getD, show j < (una S.ls).length by omega])
        have hto := hT.to
        obtain ⟨la, lc, el, l1, l2, -⟩ := hto.form
        rw [List.length_take, hn, Nat.min_eq_left (by omega)] at el l1
        subst el
        have HBE : Hid (((una S.ls).take j).length + 1 ≤ 4000000000000) := hide (by rw [List.length_take]; omega)
        generalize (una S.ls).getD j e0 = x at *
        obtain ⟨x0, x1, x2⟩ := x
        simp only at HAT
        unfold maxLen at r2 l2
        clear hT ht1 ht2 hto HTL hn hTn i1 i2
        have hwj : IntKind.i64.wrap (((S.gone + i : Nat) : Int)) = ((S.gone + i : Nat) : Int) := by have := HG.out; have := HL.out; rw [LS.es_len] at this; simp [IntKind.wrap, IntKind.bits, IntKind.signed]; omega
        generalize ((S.gone + i : Nat) : Int) = gi at *
        go_wp2_with (first
          | (go_at_call 35; refine HAT.out.mono ?_; rintro e w1 ⟨rfl, q1⟩; have HT1 := hide (HT.out.below q1); have HE := hide (HT1.out.to.below (below_alloc w1 (.cells #[.int .i64 x0, .int .i64 x1, .int .i64 x2] 36))); clear q1 HAT HT)
          | (at_builtin; refine wpList_appendE _ rfl (.tmp 34) (.tmp 38) rfl _ ((una S.ls).take j) rfl HE.out ⟨w1.heap.size, 0, none⟩ 1 [(x0, x1, x2)] (by simp) rfl (cells_new _ #[.int .i64 x0, .int .i64 x1, .int .i64 x2] _ _ rfl) HBE.out ?_; intro v6 w6 q1 q2; rw [HTK.out] at q1; have HTN := hide (HT1.out.app (below_alloc w1 _) q2 q1); clear q1 q2 HT1 HE))
        go_roundw
        case rel => exact ⟨j + 1, by omega, by go_num, HTN.out⟩
        case measure => simp [intOf]; omega
      · have ej : j = n := by omega
        subst ej
        have HTO := hide hT.to
        rw [List.take_of_length_le (by omega)] at HTO
        obtain ⟨la, lc, el, l1, l2, -⟩ := HTO.out.form
        rw [hn] at el
        subst el
        have HB := hide hT.bel
        have HO := hide hT.own
        clear hT HT hTn i1 hn
        go_wp2_with fail
        go_ret
        exact ⟨_, rfl, HTO.out, HO.out, HB.out⟩
end Go.Proofs.Ytcdmkbjibcahcaa
namespace Go.Proofs.Ytcdmkbjibcahcaa
open Go.RowKit
set_option linter.unusedVariables false
set_option linter.unusedSimpArgs false
set_option maxRecDepth 20000

/-- asks is through -/
def AkP (w0 x : World) (p bm q b : Nat) (A0 : Nat → Nat → Prop) (v dv : Value) (S : LS) (c N : Nat) (e : Ending) (y : World) : Prop := e = .returned (.bool true) ∧ PX w0 y p bm v q dv S S b c N A0 [] ∧ Ft x y p bm q v v dv dv A0
theorem PM.asked {w0 x y : World} {p bm q b : Nat} {A0 : Nat → Nat → Prop} {o : Int × Int × Int × Int} {v dv : Value} {S : LS} {c N c' : Nat} (h : PM w0 x y p bm q b A0 v dv o v dv S S c N []) (hc : c ≤ c') : AkP w0 x p bm q b A0 v dv S c' N (.returned (.bool true)) y := ⟨rfl, h.px.more hc (Nat.le_refl _), h.ft⟩
section
variable {w0 x y z : World} {p bm q b : Nat} {A0 : Nat → Nat → Prop} {vs ds v dv v' dv' : Value} {o : Int × Int × Int × Int} {S D S' D' : LS} {c N c' N' : Nat} {P P' : VL}
theorem PM.swap {l k : Value × List En} (h : PM w0 x y p bm q b A0 vs ds o v dv S D c N (l :: k :: P)) : PM w0 x y p bm q b A0 vs ds o v dv S D c N (k :: l :: P) := by
  have a := h.px
  have m : ∀ u, u ∈ k :: l :: P → u ∈ l :: k :: P := fun u hu => by
    simp only [List.mem_cons] at hu ⊢
    rcases hu with e | e | e
    · exact .inr (.inl e)
    · exact .inl e
    · exact .inr (.inr e)
  have pw := a.pp
  rw [List.pairwise_cons, List.pairwise_cons] at pw
  refine h.step ⟨a.al, a.dl, a.q0, a.q1, a.bx.move (U := fun _ => False) (Ck.refl _ _) (Chg.refl _ _) (fun _ e => e.elim) ?_, a.a0, a.a1, fun u hu => a.ep u (m u hu), fun u hu => a.dp u (m u hu), ?_, fun u hu => a.op u (m u hu), fun u hu => a.pl u (m u hu)⟩ (Ft.ofBelow (Below.refl _ _))
  · rintro g i (e | ⟨u, hu, e⟩)
    · exact .inl (.inl e)
    · exact .inl (.inr ⟨u, m u hu, e⟩)
  · rw [List.pairwise_cons, List.pairwise_cons]
    refine ⟨fun u hu => ?_, fun u hu => pw.1 u (List.mem_cons.2 (.inr hu)), pw.2.2⟩
    rcases List.mem_cons.1 hu with rfl | hu
    · exact fun g i e1 e2 => pw.1 k (List.mem_cons.2 (.inl rfl)) g i e2 e1
    · exact pw.2.1 u hu
/-- the list beneath beside the document's copy -/
theorem PM.same2 {l k : Value × List En} {u : Value} (h : PM w0 x y p bm q b A0 vs ds o v dv S D c N (l :: k :: P)) (hu : ERow y u k.2) : Calls Try.prog 22 #[k.1, u] y fun e z => e = .returned (.bool true) ∧ PM w0 x z p bm q b A0 vs ds o v dv S D c N (l :: k :: P) := by
  have := sameEntries_any y k.1 u k.2 k.2 (h.px.ep k (List.mem_cons.2 (.inr (List.mem_cons.2 (.inl rfl))))) hu
  rw [decide_eq_true rfl] at this
  exact this.mono fun e z k => ⟨k.1, h.below k.2⟩
end
set_option maxHeartbeats 2000000 in
theorem as_open {w0 x : World} {p bm q b : Nat} {A0 : Nat → Nat → Prop} {v dv : Value} {S : LS} {c N : Nat} (h : PX w0 x p bm v q dv S S b c N A0 []) (hN : N ≤ 10000000000000) (hc : c ≤ 1000000000) (o1 o2 o3 : Int) : Calls Try.prog 28 #[.agg #[.pointer (some ⟨p, 0, none⟩), .pointer (some ⟨q, 0, none⟩)], .agg #[.int .i64 5, .int .i64 o1, .int .i64 o2, .int .i64 o3], .pointer (some ⟨b, 0, none⟩)] x (AkP w0 x p bm q b A0 v dv S (c + 2) N) := by
  have HP0 := hide (PM.start h (5, o1, o2, o3))
  have hl := h.al.ok.bd.es
  rw [LS.es_len] at hl
  have hok := h.al.ok
  have HA : Hid (∀ y, PM w0 x y p bm q b A0 v dv (5, o1, o2, o3) v dv S S c N [] → Calls Try.prog 15 #[.pointer (some ⟨p, 0, none⟩)] y fun e z => e = .returned (.int .i64 (S.now : Int)) ∧ PM w0 x z p bm q b A0 v dv (5, o1, o2, o3) v dv S S c N []) := hide fun y hy => (hy.px.al.opn).mono fun e z k => ⟨k.1, by obtain ⟨m, rfl⟩ := k.2; exact hy.below (below_drew0 _ m)⟩
  have HR : Hid (∀ y, PM w0 x y p bm q b A0 v dv (5, o1, o2, o3) v dv S S c N [] → Calls Try.prog 44 #[.pointer (some ⟨q, 0, none⟩)] y fun e z => e = .returned (.int .i64 (S.now : Int)) ∧ PM w0 x z p bm q b A0 v dv (5, o1, o2, o3) v dv S S c N []) := hide fun y hy => (ropen_any hy.px.dl).mono fun e z k => ⟨by rw [k.1], by rw [k.2]; exact hy⟩
  clear h hl hok
  generalize (S.now : Int) = nn at *
  have e1 : (nn == nn) = true := by simp
  have HPd := hide (HP0.out.below (below_drew0 _ 1))
  have r0 : (((x.alloc (.cells #[.pointer (some ⟨p, 0, none⟩), .pointer (some ⟨q, 0, none⟩)] 53)).alloc (.cells #[.int .i64 5, .int .i64 o1, .int .i64 o2, .int .i64 o3] 29)).drewN 1).cell? ⟨x.heap.size, 0, none⟩ = _ := HPd.out.p0
  have r1 : (((x.alloc (.cells #[.pointer (some ⟨p, 0, none⟩), .pointer (some ⟨q, 0, none⟩)] 53)).alloc (.cells #[.int .i64 5, .int .i64 o1, .int .i64 o2, .int .i64 o3] 29)).drewN 1).cell? ⟨x.heap.size, 1, none⟩ = _ := HPd.out.p1
  have r2 : (((x.alloc (.cells #[.pointer (some ⟨p, 0, none⟩), .pointer (some ⟨q, 0, none⟩)] 53)).alloc (.cells #[.int .i64 5, .int .i64 o1, .int .i64 o2, .int .i64 o3] 29)).drewN 1).cell? ⟨x.heap.size + 1, 2, none⟩ = _ := HPd.out.o2
  go_enter Try.func28, Try.ntmps28
  go_wp2_with fail
  go_region_law (first
    | (refine step_callTo rfl 15 #[.pointer (some ⟨p, 0, none⟩)] (by kernel_rfl) (HA.out _ HPd.out) (fun e w' h => ⟨_, h.1⟩) ?_; rintro u1 y1 ⟨hv, k1⟩; injection hv with hv; subst hv; have HP1 := hide k1; have p1 : y1.cell? ⟨x.heap.size, 1, none⟩ = _ := k1.p1; have q2 : y1.cell? ⟨x.heap.size + 1, 2, none⟩ = some (.int .i64 o2) := k1.o2; clear k1)
    | (refine step_callTo rfl 44 #[.pointer (some ⟨q, 0, none⟩)] (by kernel_rfl) (HR.out _ HP1.out) (fun e w' h => ⟨_, h.1⟩) ?_; rintro u2 y2 ⟨hv, k2⟩; injection hv with hv; subst hv; have HP2 := hide k2; clear k2))
  all_goals
    go_wp2_with fail
    go_ret
    try rw [e1]
    exact HP2.out.asked (Nat.le_add_right c 2)
set_option maxHeartbeats 2000000 in
theorem as_size {w0 x : World} {p bm q b : Nat} {A0 : Nat → Nat → Prop} {v dv : Value} {S : LS} {c N : Nat} (h : PX w0 x p bm v q dv S S b c N A0 []) (hN : N ≤ 10000000000000) (hc : c ≤ 1000000000) (o1 o2 o3 : Int) : Calls Try.prog 28 #[.agg #[.pointer (some ⟨p, 0, none⟩), .pointer (some ⟨q, 0, none⟩)], .agg #[.int .i64 6, .int .i64 o1, .int .i64 o2, .int .i64 o3], .pointer (some ⟨b, 0, none⟩)] x (AkP w0 x p bm q b A0 v dv S (c + 2) N) := by
  have HP0 := hide (PM.start h (6, o1, o2, o3))
  have hl := h.al.ok.bd.es
  rw [LS.es_len] at hl
  have hok := h.al.ok
  have HA : Hid (∀ y, PM w0 x y p bm q b A0 v dv (6, o1, o2, o3) v dv S S c N [] → Calls Try.prog 23 #[.pointer (some ⟨p, 0, none⟩)] y fun e z => e = .returned (.int .i64 (S.es.length : Int)) ∧ PM w0 x z p bm q b A0 v dv (6, o1, o2, o3) v dv S S c N []) := hide fun y hy => (hy.px.al.size).mono fun e z k => ⟨k.1, by obtain ⟨m, rfl⟩ := k.2; exact hy.below (below_drew0 _ m)⟩
  have HR : Hid (∀ y, PM w0 x y p bm q b A0 v dv (6, o1, o2, o3) v dv S S c N [] → Calls Try.prog 45 #[.pointer (some ⟨q, 0, none⟩)] y fun e z => e = .returned (.int .i64 (S.es.length : Int)) ∧ PM w0 x z p bm q b A0 v dv (6, o1, o2, o3) v dv S S c N []) := hide fun y hy => (rsize_any hy.px.dl).mono fun e z k => ⟨by rw [k.1, LS.es_len], by rw [k.2]; exact hy⟩
  clear h hl hok
  generalize (S.es.length : Int) = nn at *
  have e1 : (nn == nn) = true := by simp
  have HPd := hide (HP0.out.below (below_drew0 _ 1))
  have r0 : (((x.alloc (.cells #[.pointer (some ⟨p, 0, none⟩), .pointer (some ⟨q, 0, none⟩)] 53)).alloc (.cells #[.int .i64 6, .int .i64 o1, .int .i64 o2, .int .i64 o3] 29)).drewN 1).cell? ⟨x.heap.size, 0, none⟩ = _ := HPd.out.p0
  have r1 : (((x.alloc (.cells #[.pointer (some ⟨p, 0, none⟩), .pointer (some ⟨q, 0, none⟩)] 53)).alloc (.cells #[.int .i64 6, .int .i64 o1, .int .i64 o2, .int .i64 o3] 29)).drewN 1).cell? ⟨x.heap.size, 1, none⟩ = _ := HPd.out.p1
  have r2 : (((x.alloc (.cells #[.pointer (some ⟨p, 0, none⟩), .pointer (some ⟨q, 0, none⟩)] 53)).alloc (.cells #[.int .i64 6, .int .i64 o1, .int .i64 o2, .int .i64 o3] 29)).drewN 1).cell? ⟨x.heap.size + 1, 2, none⟩ = _ := HPd.out.o2
  go_enter Try.func28, Try.ntmps28
  go_wp2_with fail
  go_region_law (first
    | (refine step_callTo rfl 23 #[.pointer (some ⟨p, 0, none⟩)] (by kernel_rfl) (HA.out _ HPd.out) (fun e w' h => ⟨_, h.1⟩) ?_; rintro u1 y1 ⟨hv, k1⟩; injection hv with hv; subst hv; have HP1 := hide k1; have p1 : y1.cell? ⟨x.heap.size, 1, none⟩ = _ := k1.p1; have q2 : y1.cell? ⟨x.heap.size + 1, 2, none⟩ = some (.int .i64 o2) := k1.o2; clear k1)
    | (refine step_callTo rfl 45 #[.pointer (some ⟨q, 0, none⟩)] (by kernel_rfl) (HR.out _ HP1.out) (fun e w' h => ⟨_, h.1⟩) ?_; rintro u2 y2 ⟨hv, k2⟩; injection hv with hv; subst hv; have HP2 := hide k2; clear k2))
  all_goals
    go_wp2_with fail
    go_ret
    try rw [e1]
    exact HP2.out.asked (Nat.le_add_right c 2)
set_option maxHeartbeats 2000000 in
theorem as_epochs {w0 x : World} {p bm q b : Nat} {A0 : Nat → Nat → Prop} {v dv : Value} {S : LS} {c N : Nat} (h : PX w0 x p bm v q dv S S b c N A0 []) (hN : N ≤ 10000000000000) (hc : c ≤ 1000000000) (o1 o2 o3 : Int) : Calls Try.prog 28 #[.agg #[.pointer (some ⟨p, 0, none⟩), .pointer (some ⟨q, 0, none⟩)], .agg #[.int .i64 7, .int .i64 o1, .int .i64 o2, .int .i64 o3], .pointer (some ⟨b, 0, none⟩)] x (AkP w0 x p bm q b A0 v dv S (c + 2) N) := by
  have HP0 := hide (PM.start h (7, o1, o2, o3))
  have hl := h.al.ok.bd.es
  rw [LS.es_len] at hl
  have hok := h.al.ok
  have HA : Hid (∀ y, PM w0 x y p bm q b A0 v dv (7, o1, o2, o3) v dv S S c N [] → Calls Try.prog 16 #[.pointer (some ⟨p, 0, none⟩)] y fun e z => e = .returned (.int .i64 ((S.now : Int) - oldE S)) ∧ PM w0 x z p bm q b A0 v dv (7, o1, o2, o3) v dv S S c N []) := hide fun y hy => (hy.px.al.epochs (by omega)).mono fun e z k => ⟨k.1, by obtain ⟨m, rfl⟩ := k.2; exact hy.below (below_drew0 _ m)⟩
  have HR : Hid (∀ y, PM w0 x y p bm q b A0 v dv (7, o1, o2, o3) v dv S S c N [] → Calls Try.prog 46 #[.pointer (some ⟨q, 0, none⟩)] y fun e z => e = .returned (.int .i64 ((S.now : Int) - oldE S)) ∧ PM w0 x z p bm q b A0 v dv (7, o1, o2, o3) v dv S S c N []) := hide fun y hy => (repochs_any hy.px.dl hl).mono fun e z k => ⟨by rw [k.1, epF_eq hok], by rw [k.2]; exact hy⟩
  clear h hl hok
  generalize (S.now : Int) - oldE S = nn at *
  have e1 : (nn == nn) = true := by simp
  have HPd := hide (HP0.out.below (below_drew0 _ 1))
  have r0 : (((x.alloc (.cells #[.pointer (some ⟨p, 0, none⟩), .pointer (some ⟨q, 0, none⟩)] 53)).alloc (.cells #[.int .i64 7, .int .i64 o1, .int .i64 o2, .int .i64 o3] 29)).drewN 1).cell? ⟨x.heap.size, 0, none⟩ = _ := HPd.out.p0
  have r1 : (((x.alloc (.cells #[.pointer (some ⟨p, 0, none⟩), .pointer (some ⟨q, 0, none⟩)] 53)).alloc (.cells #[.int .i64 7, .int .i64 o1, .int .i64 o2, .int .i64 o3] 29)).drewN 1).cell? ⟨x.heap.size, 1, none⟩ = _ := HPd.out.p1
  have r2 : (((x.alloc (.cells #[.pointer (some ⟨p, 0, none⟩), .pointer (some ⟨q, 0, none⟩)] 53)).alloc (.cells #[.int .i64 7, .int .i64 o1, .int .i64 o2, .int .i64 o3] 29)).drewN 1).cell? ⟨x.heap.size + 1, 2, none⟩ = _ := HPd.out.o2
  go_enter Try.func28, Try.ntmps28
  go_wp2_with fail
  go_region_law (first
    | (refine step_callTo rfl 16 #[.pointer (some ⟨p, 0, none⟩)] (by kernel_rfl) (HA.out _ HPd.out) (fun e w' h => ⟨_, h.1⟩) ?_; rintro u1 y1 ⟨hv, k1⟩; injection hv with hv; subst hv; have HP1 := hide k1; have p1 : y1.cell? ⟨x.heap.size, 1, none⟩ = _ := k1.p1; have q2 : y1.cell? ⟨x.heap.size + 1, 2, none⟩ = some (.int .i64 o2) := k1.o2; clear k1)
    | (refine step_callTo rfl 46 #[.pointer (some ⟨q, 0, none⟩)] (by kernel_rfl) (HR.out _ HP1.out) (fun e w' h => ⟨_, h.1⟩) ?_; rintro u2 y2 ⟨hv, k2⟩; injection hv with hv; subst hv; have HP2 := hide k2; clear k2))
  all_goals
    go_wp2_with fail
    go_ret
    try rw [e1]
    exact HP2.out.asked (Nat.le_add_right c 2)
set_option maxHeartbeats 2000000 in
theorem as_settled {w0 x : World} {p bm q b : Nat} {A0 : Nat → Nat → Prop} {v dv : Value} {S : LS} {c N : Nat} (h : PX w0 x p bm v q dv S S b c N A0 []) (hN : N ≤ 10000000000000) (hc : c ≤ 1000000000) (o1 o2 o3 : Int) : Calls Try.prog 28 #[.agg #[.pointer (some ⟨p, 0, none⟩), .pointer (some ⟨q, 0, none⟩)], .agg #[.int .i64 9, .int .i64 o1, .int .i64 o2, .int .i64 o3], .pointer (some ⟨b, 0, none⟩)] x (AkP w0 x p bm q b A0 v dv S (c + 2) N) := by
  have HP0 := hide (PM.start h (9, o1, o2, o3))
  have hl := h.al.ok.bd.es
  rw [LS.es_len] at hl
  have hok := h.al.ok
  have HA : Hid (∀ y, PM w0 x y p bm q b A0 v dv (9, o1, o2, o3) v dv S S c N [] → Calls Try.prog 19 #[.pointer (some ⟨p, 0, none⟩), .int .i64 o2] y fun e z => e = .returned (.bool (decide (S.es.length = 0) || decide (o2 < (S.es.getD 0 e0).2.2))) ∧ PM w0 x z p bm q b A0 v dv (9, o1, o2, o3) v dv S S c N []) := hide fun y hy => (hy.px.al.settled o2).mono fun e z k => ⟨k.1, by obtain ⟨m, rfl⟩ := k.2; exact hy.below (below_drew0 _ m)⟩
  have HR : Hid (∀ y, PM w0 x y p bm q b A0 v dv (9, o1, o2, o3) v dv S S c N [] → Calls Try.prog 48 #[.pointer (some ⟨q, 0, none⟩), .int .i64 o2] y fun e z => e = .returned (.bool (decide (S.es.length = 0) || decide (o2 < (S.es.getD 0 e0).2.2))) ∧ PM w0 x z p bm q b A0 v dv (9, o1, o2, o3) v dv S S c N []) := hide fun y hy => (rsettled_any hy.px.dl hl o2).mono fun e z k => ⟨by rw [k.1, settled_eq hok o2], by rw [k.2]; exact hy⟩
  clear h hl hok
  generalize (decide (S.es.length = 0) || decide (o2 < (S.es.getD 0 e0).2.2)) = nn at *
  have e1 : (nn == nn) = true := by simp
  have HPd := hide (HP0.out.below (below_drew0 _ 1))
  have r0 : (((x.alloc (.cells #[.pointer (some ⟨p, 0, none⟩), .pointer (some ⟨q, 0, none⟩)] 53)).alloc (.cells #[.int .i64 9, .int .i64 o1, .int .i64 o2, .int .i64 o3] 29)).drewN 1).cell? ⟨x.heap.size, 0, none⟩ = _ := HPd.out.p0
  have r1 : (((x.alloc (.cells #[.pointer (some ⟨p, 0, none⟩), .pointer (some ⟨q, 0, none⟩)] 53)).alloc (.cells #[.int .i64 9, .int .i64 o1, .int .i64 o2, .int .i64 o3] 29)).drewN 1).cell? ⟨x.heap.size, 1, none⟩ = _ := HPd.out.p1
  have r2 : (((x.alloc (.cells #[.pointer (some ⟨p, 0, none⟩), .pointer (some ⟨q, 0, none⟩)] 53)).alloc (.cells #[.int .i64 9, .int .i64 o1, .int .i64 o2, .int .i64 o3] 29)).drewN 1).cell? ⟨x.heap.size + 1, 2, none⟩ = _ := HPd.out.o2
  go_enter Try.func28, Try.ntmps28
  go_wp2_with fail
  go_region_law (first
    | (refine step_callTo rfl 19 #[.pointer (some ⟨p, 0, none⟩), .int .i64 o2] (by kernel_rfl) (HA.out _ HPd.out) (fun e w' h => ⟨_, h.1⟩) ?_; rintro u1 y1 ⟨hv, k1⟩; injection hv with hv; subst hv; have HP1 := hide k1; have p1 : y1.cell? ⟨x.heap.size, 1, none⟩ = _ := k1.p1; have q2 : y1.cell? ⟨x.heap.size + 1, 2, none⟩ = some (.int .i64 o2) := k1.o2; clear k1)
    | (refine step_callTo rfl 48 #[.pointer (some ⟨q, 0, none⟩), .int .i64 o2] (by kernel_rfl) (HR.out _ HP1.out) (fun e w' h => ⟨_, h.1⟩) ?_; rintro u2 y2 ⟨hv, k2⟩; injection hv with hv; subst hv; have HP2 := hide k2; clear k2))
  all_goals
    go_wp2_with fail
    go_ret
    try rw [e1]
    exact HP2.out.asked (Nat.le_add_right c 2)
set_option maxHeartbeats 2000000 in
theorem as_una {w0 x : World} {p bm q b : Nat} {A0 : Nat → Nat → Prop} {v dv : Value} {S : LS} {c N : Nat} (h : PX w0 x p bm v q dv S S b c N A0 []) (hN : N ≤ 10000000000000) (hc : c ≤ 1000000000) (o1 o2 o3 : Int) : Calls Try.prog 28 #[.agg #[.pointer (some ⟨p, 0, none⟩), .pointer (some ⟨q, 0, none⟩)], .agg #[.int .i64 8, .int .i64 o1, .int .i64 o2, .int .i64 o3], .pointer (some ⟨b, 0, none⟩)] x (AkP w0 x p bm q b A0 v dv S (c + 2) N) := by
  have HP0 := hide (PM.start h (8, o1, o2, o3))
  have hl := h.al.ok.bd.es
  have hl2 := hl
  rw [LS.es_len] at hl2
  have hok := h.al.ok
  have htot := h.al.tot
  have hul : (una S.ls).length ≤ 2000 := by
    have := una_le S.ls
    omega
  have HA : Hid (∀ y P, PM w0 x y p bm q b A0 v dv (8, o1, o2, o3) v dv S S c N P → Calls Try.prog 27 #[.pointer (some ⟨p, 0, none⟩)] y fun e z => ∃ lv, e = .returned lv ∧ PM w0 x z p bm q b A0 v dv (8, o1, o2, o3) v dv S S c N ((lv, una S.ls) :: P)) := hide fun y P hy => (Unacked_any y p bm v S hy.px.al.rep hok.bd.nd hl (by omega)).mono fun e z k => by
    obtain ⟨lv, rfl, k1, k2, k3⟩ := k
    exact ⟨lv, rfl, hy.step (hy.px.new k3 k1 k2 hul) (Ft.ofBelow k3)⟩
  have HR : Hid (∀ y P, PM w0 x y p bm q b A0 v dv (8, o1, o2, o3) v dv S S c N P → Calls Try.prog 47 #[.pointer (some ⟨q, 0, none⟩)] y fun e z => ∃ lv, e = .returned lv ∧ PM w0 x z p bm q b A0 v dv (8, o1, o2, o3) v dv S S c N P ∧ ERow z lv (una S.ls)) := hide fun y P hy => (runa_any hy.px.dl hl2).mono fun e z k => by
    obtain ⟨lv, rfl, k1⟩ := k
    exact ⟨lv, rfl, hy.below k1.bel, k1.row⟩
  clear h hl hl2 hok htot hul
  generalize una S.ls = ul at *
  go_enter Try.func28, Try.ntmps28
  go_wp2_with (first
    | (go_at_call 27; refine (HA.out _ _ HP0.out).mono ?_; rintro e y1 ⟨l1, rfl, k1⟩; have HP1 := hide k1; have p0 : y1.cell? ⟨x.heap.size, 0, none⟩ = _ := k1.p0; clear k1 HP0)
    | (go_at_call 27; refine (HA.out _ _ HP1.out).mono ?_; rintro e y2 ⟨l2, rfl, k1⟩; have HP2 := hide k1; have p1 : y2.cell? ⟨x.heap.size, 1, none⟩ = _ := k1.p1; clear k1 HP1)
    | (go_at_call 47; refine (HR.out _ _ HP2.out).mono ?_; rintro e y3 ⟨l3, rfl, k1, k2⟩; have HP3 := hide k1; have HE3 := hide k2; clear k1 k2 HP2)
    | (go_at_call 22; refine (HP3.out.same2 HE3.out).mono ?_; rintro e y4 ⟨rfl, k1⟩; have HP4 := hide k1; have p2 : y4.cell? ⟨x.heap.size, 1, none⟩ = _ := k1.p1; clear k1 HP3 HE3)
    | (go_at_call 47; refine (HR.out _ _ HP4.out).mono ?_; rintro e y5 ⟨l5, rfl, k1, k2⟩; have HP5 := hide k1; have HE5 := hide k2; clear k1 k2 HP4)
    | (go_at_call 22; refine (HP5.out.same HE5.out).mono ?_; rintro e y6 ⟨rfl, k1⟩; have HP6 := hide k1.swap; clear k1 HP5 HE5)
    | (go_at_call 41; refine (HP6.out.keep (by omega)).mono ?_; rintro e y7 ⟨rfl, k1⟩; have HP7 := hide k1; clear k1 HP6)
    | (go_at_call 41; refine (HP7.out.keep (by omega)).mono ?_; rintro e y8 ⟨rfl, k1⟩; have HP8 := hide k1; clear k1 HP7))
  go_ret
  exact HP8.out.asked (Nat.le_refl _)
set_option maxHeartbeats 2000000 in
theorem as_none {w0 x : World} {p bm q b : Nat} {A0 : Nat → Nat → Prop} {v dv : Value} {S : LS} {c N : Nat} (h : PX w0 x p bm v q dv S S b c N A0 []) (hN : N ≤ 10000000000000) (hc : c ≤ 1000000000) (k : Int) (h5 : k ≠ 5) (h6 : k ≠ 6) (h7 : k ≠ 7) (h8 : k ≠ 8) (h9 : k ≠ 9) (o1 o2 o3 : Int) : Calls Try.prog 28 #[.agg #[.pointer (some ⟨p, 0, none⟩), .pointer (some ⟨q, 0, none⟩)], .agg #[.int .i64 k, .int .i64 o1, .int .i64 o2, .int .i64 o3], .pointer (some ⟨b, 0, none⟩)] x (AkP w0 x p bm q b A0 v dv S (c + 2) N) := by
  have HP0 := hide (PM.start h (k, o1, o2, o3))
  have e5 : (k == 5) = false := by simpa using h5
  have e6 : (k == 6) = false := by simpa using h6
  have e7 : (k == 7) = false := by simpa using h7
  have e8 : (k == 8) = false := by simpa using h8
  have e9 : (k == 9) = false := by simpa using h9
  clear h
  go_enter Try.func28, Try.ntmps28
  go_wp2_with fail
  go_ret
  exact HP0.out.asked (Nat.le_add_right c 2)
theorem asks_any {w0 x : World} {p bm q b : Nat} {A0 : Nat → Nat → Prop} {v dv : Value} {S : LS} {c N : Nat} (h : PX w0 x p bm v q dv S S b c N A0 []) (hN : N ≤ 10000000000000) (hc : c ≤ 1000000000) (k o1 o2 o3 : Int) : Calls Try.prog 28 #[.agg #[.pointer (some ⟨p, 0, none⟩), .pointer (some ⟨q, 0, none⟩)], .agg #[.int .i64 k, .int .i64 o1, .int .i64 o2, .int .i64 o3], .pointer (some ⟨b, 0, none⟩)] x (AkP w0 x p bm q b A0 v dv S (c + 2) N) := by
  by_cases h5 : k = 5
  · subst h5
    exact as_open h hN hc o1 o2 o3
  by_cases h6 : k = 6
  · subst h6
    exact as_size h hN hc o1 o2 o3
  by_cases h7 : k = 7
  · subst h7
    exact as_epochs h hN hc o1 o2 o3
  by_cases h8 : k = 8
  · subst h8
    exact as_una h hN hc o1 o2 o3
  by_cases h9 : k = 9
  · subst h9
    exact as_settled h hN hc o1 o2 o3
  exact as_none h hN hc k h5 h6 h7 h8 h9 o1 o2 o3
end Go.Proofs.Ytcdmkbjibcahcaa
namespace Go.Proofs.Ytcdmkbjibcahcaa
open Go.RowKit
set_option linter.unusedVariables false
set_option linter.unusedSimpArgs false
set_option maxRecDepth 20000

theorem step_callW {P : Program} {ops : Array Oper} {o : Oper} {a : Act} {w : World} {K : Act → World → Prop} {Q : Exit → Act → World → Prop} {E : Prop} (hw : Region.wanted o (yielded ops a.tmps) = true) (f : FuncId) (args : Array Value) (hrun : (execOp a.eval o).run P w = .ok (.enter f args) w)
    {post : Ending → World → Prop} (hc : Calls P f args w post) (hp : ∀ e w', post e w' → ∃ v, e = .returned v) (h : ∀ v w', post (.returned v) w' → K (a.put o.dst v) w') :
    if Region.wanted o (yielded ops a.tmps) = true then Oper.wp P o a w K Q else E := by
  rw [if_pos hw]
  unfold Oper.wp
  rw [hrun, Oper.upon_enter]
  refine hc.mono fun e w'' hh => ?_
  obtain ⟨v, rfl⟩ := hp e w'' hh
  exact h v w'' hh
theorem RL.asks {w x : World} {gp p bm q b c N : Nat} (h : RL w x gp p bm q b c N) (hN : N ≤ 10000000000000) (hc : c ≤ 1000000000) (k o1 o2 o3 : Int) : Calls Try.prog 28 #[.agg #[.pointer (some ⟨p, 0, none⟩), .pointer (some ⟨q, 0, none⟩)], .agg #[.int .i64 k, .int .i64 o1, .int .i64 o2, .int .i64 o3], .pointer (some ⟨b, 0, none⟩)] x fun e y => e = .returned (.bool true) ∧ RL w y gp p bm q b (c + 2) N := by
  obtain ⟨⟨v, dv, S, hx⟩, hp⟩ := h
  refine (asks_any hx hN hc k o1 o2 o3).mono ?_
  rintro e y ⟨rfl, k, f⟩
  exact ⟨rfl, RL.step hp hx k f⟩
set_option maxHeartbeats 2000000 in
theorem asks_good (w : World) (lim ep : Nat) (sv : Value) (os : List OpV) (hs : OSl w sv os) (hn : os.length ≤ 1048576) (hok : ∀ s ∈ os, s.ok) (h1 : 1 ≤ lim) (h2 : lim ≤ 1024) (h3 : 1 ≤ ep) (h4 : ep ≤ 64) : Calls Try.prog 8 #[.int .i64 (lim : Int), .int .i64 (ep : Int), sv] w fun e w' => e = .returned (.bool true) ∧ Below w.heap.size w w' := by
  have HM := hide fun x => makes_ok x lim ep h1 h2 h3 h4
  have HOS := hide hs
  obtain ⟨sa, sc, rfl, b1, b2, -⟩ := hs
  have HQ : Hid (∀ x i (hi : i < os.length), Below w.heap.size w x → ∃ g off, sa = some ⟨g, off, none⟩ ∧ (x.cell? ⟨g, off + i * 4, none⟩ = some (.int .i64 os[i].kind) ∧ x.cell? ⟨g, off + i * 4 + 1, none⟩ = some (.int .i64 os[i].of)) ∧ x.cell? ⟨g, off + i * 4 + 2, none⟩ = some (.int .i64 os[i].a) ∧ x.cell? ⟨g, off + i * 4 + 3, none⟩ = some (.int .i64 os[i].b) ∧ i64ok os[i].a) := hide fun x i hi hb => by
    obtain ⟨a9, c9, e9, -, -, hq⟩ := HOS.out.below hb
    simp only [Value.slice.injEq, true_and] at e9
    obtain ⟨rfl, rfl⟩ := e9
    obtain ⟨g, off, e1, hc⟩ := hq (by omega)
    obtain ⟨c1, c2, c3⟩ := hc i hi
    exact ⟨g, off, e1, c1, c2, c3, (hok _ (List.getElem_mem hi)).2.2.1⟩
  have HST := hide fun (y1 : World) (p bm q : Nat) k1 k2 k3 k4 k5 k6 => RL.start (w := w) (y1 := y1) (p := p) (bm := bm) (q := q) (lim := lim) (ep := ep) k1 k2 k3 k4 k5 k6 h1 h2 h3 h4
  clear hok HOS
  go_enter Try.func8, Try.ntmps8
  go_wp2_with (first
    | (go_at_call 24; refine (HM.out _).mono ?_; rintro e y1 ⟨p, bm, q, rfl, k1, k2, k3, k4, k5, k6⟩; have HR0 := hide (HST.out y1 p bm q k1 k2 k3 k4 k5 k6); clear k1 k2 k3 k4 k5 k6))
  clear HST HM h1 h2 h3 h4
  generalize hgp : y1.heap.size = gp at *
  clear hgp
  obtain ⟨y2, hy2⟩ : ∃ y2, ((y1.alloc (.cells #[.pointer (some ⟨p, 0, none⟩), .pointer (some ⟨q, 0, none⟩)] 53)).alloc (.cells #[nilV, nilV, nilV, nilV, .int .i64 0] 59)) = y2 := ⟨_, rfl⟩
  rw [hy2] at HR0 ⊢
  clear hy2
  go_loopw [10] (fun u wr => ∃ i : Nat, i ≤ os.length ∧ u = .int .i64 (i : Int) ∧ Hid (RL w wr gp p bm q (gp + 1) (3 * i) i)) (fun u _ => os.length - (intOf u).toNat)
  case atStart => exact ⟨0, Nat.zero_le _, rfl, HR0⟩
  case round =>
    clear HR0
    obtain ⟨i, hi, rfl, HR⟩ := hrel
    have d0 := HR.out.b0
    have d1 := HR.out.b1
    by_cases hlt : i < os.length
    · have hli : (i : Int) < (os.length : Int) := by omega
      obtain ⟨g, off, rfl, ⟨c0, c1⟩, c2, c3, hid⟩ := HQ.out _ i hlt HR.out.bel
      have HCE : Hid (∀ x, Below w.heap.size w x → x.cell? ⟨g, off + i * 4, none⟩ = some (.int .i64 os[i].kind) ∧ x.cell? ⟨g, off + i * 4 + 1, none⟩ = some (.int .i64 os[i].of) ∧ x.cell? ⟨g, off + i * 4 + 2, none⟩ = some (.int .i64 os[i].a) ∧ x.cell? ⟨g, off + i * 4 + 3, none⟩ = some (.int .i64 os[i].b)) := hide fun x hx => by
        obtain ⟨g', off', e9, ⟨z0, z1⟩, z2, z3, -⟩ := HQ.out x i hlt hx
        simp only [Option.some.injEq, Addr.mk.injEq, and_true] at e9
        obtain ⟨rfl, rfl⟩ := e9
        exact ⟨z0, z1, z2, z3⟩
      clear HQ
      generalize os[i].kind = kk at *
      generalize os[i].of = of at *
      generalize os[i].a = oa at *
      generalize os[i].b = ob at *
      have HC : Hid (∀ x, RL w x gp p bm q (gp + 1) (3 * i) i → Calls Try.prog 28 #[.agg #[.pointer (some ⟨p, 0, none⟩), .pointer (some ⟨q, 0, none⟩)], .agg #[.int .i64 kk, .int .i64 of, .int .i64 oa, .int .i64 ob], .pointer (some ⟨gp + 1, 0, none⟩)] x fun e y => e = .returned (.bool true) ∧ RL w y gp p bm q (gp + 1) (3 * i + 2) i) := hide fun x hx => hx.asks (by omega) (by omega) kk of oa ob
      have HD : Hid (∀ x, RL w x gp p bm q (gp + 1) (3 * i + 2) i → Calls Try.prog 25 #[.agg #[.pointer (some ⟨p, 0, none⟩), .pointer (some ⟨q, 0, none⟩)], .agg #[.int .i64 kk, .int .i64 of, .int .i64 oa, .int .i64 ob], .bool false, .pointer (some ⟨gp + 1, 0, none⟩)] x fun e y => e = .returned (.bool true) ∧ RL w y gp p bm q (gp + 1) (3 * i + 2 + 1) (i + 1)) := hide fun x hx => hx.moves (by omega) (by omega) kk of oa ob hid false
      have HRd := hide (HR.out.below (below_drew0 _ 1))
      go_wp2_with fail
      go_region_law (first
        | (refine step_callTo rfl 28 #[.agg #[.pointer (some ⟨p, 0, none⟩), .pointer (some ⟨q, 0, none⟩)], .agg #[.int .i64 kk, .int .i64 of, .int .i64 oa, .int .i64 ob], .pointer (some ⟨gp + 1, 0, none⟩)] (by kernel_rfl) (HC.out _ HRd.out) (fun e w' h => ⟨_, h.1⟩) ?_; rintro u3 y3 ⟨hv, k⟩; injection hv with hv; subst hv; have HR1 := hide k; have f0 := k.b0; have f1 := k.b1; obtain ⟨x0, x1, x2, x3⟩ := HCE.out _ k.bel; clear k)
        | (refine step_callW (by kernel_rfl) 25 #[.agg #[.pointer (some ⟨p, 0, none⟩), .pointer (some ⟨q, 0, none⟩)], .agg #[.int .i64 kk, .int .i64 of, .int .i64 oa, .int .i64 ob], .bool false, .pointer (some ⟨gp + 1, 0, none⟩)] (by kernel_rfl) (HD.out _ HR1.out) (fun e w' h => ⟨_, h.1⟩) ?_; rintro u4 y4 ⟨hv, k⟩; injection hv with hv; subst hv; have HR2 := hide k; clear k))
      all_goals
        go_wp2_with fail
        go_roundw
        case rel => exact ⟨i + 1, by omega, by go_num, HR2⟩
        case measure => simp [intOf]; omega
    · have hli : ¬ (i : Int) < (os.length : Int) := by omega
      clear HQ
      go_wp2_with fail
      go_ret
      exact ⟨rfl, HR.out.bel⟩
theorem asks_law (w : World) (a b : Int) (sv : Value) (os : List OpV) (hs : OSl w sv os) (hn : os.length ≤ 1048576 ∧ ∀ s ∈ os, s.ok) : Calls Try.prog 8 #[.int .i64 a, .int .i64 b, sv] w fun e w' => e = .returned (.bool true) ∧ Below w.heap.size w w' := by
  by_cases h : 1 ≤ a ∧ a ≤ 1024 ∧ 1 ≤ b ∧ b ≤ 64
  · obtain ⟨lim, rfl⟩ : ∃ n : Nat, a = (n : Int) := ⟨a.toNat, by omega⟩
    obtain ⟨ep, rfl⟩ : ∃ n : Nat, b = (n : Int) := ⟨b.toNat, by omega⟩
    exact asks_good w lim ep sv os hs hn.1 hn.2 (by omega) (by omega) (by omega) (by omega)
  · have HM := hide fun x => makes_bad x a b h
    obtain ⟨sa, sc, rfl, b1, b2, -⟩ := hs
    have hn1 := hn.1
    clear h hn
    go_enter Try.func8, Try.ntmps8
    go_wp2_with (first
      | (go_at_call 24; refine (HM.out _).mono ?_; rintro e y1 ⟨rfl, k⟩; have HB := hide (k.trans ((below_alloc2 y1 (.cells #[.pointer none, .pointer none] 53) (.cells #[nilV, nilV, nilV, nilV, .int .i64 0] 59)).mono k.size)); have d0 : ((y1.alloc (.cells #[.pointer none, .pointer none] 53)).alloc (.cells #[nilV, nilV, nilV, nilV, .int .i64 0] 59)).cell? ⟨y1.heap.size, 0, none⟩ = some (.pointer none) := (by rw [cell_of_row _ _ _ _ _ _ (heap_alloc2 y1 _ _)]; rfl); clear k))
    go_loopw [10] (fun u wr => u = .int .i64 0 ∧ wr = (y1.alloc (.cells #[.pointer none, .pointer none] 53)).alloc (.cells #[nilV, nilV, nilV, nilV, .int .i64 0] 59)) (fun u _ => 0)
    case atStart => exact ⟨rfl, rfl⟩
    case round =>
      obtain ⟨rfl, rfl⟩ := hrel
      by_cases hlt : 0 < os.length
      · have hli : (0 : Int) < (os.length : Int) := by omega
        go_wp2_with fail
        go_ret
        exact ⟨rfl, HB.out⟩
      · have hli : ¬ (0 : Int) < (os.length : Int) := by omega
        go_wp2_with fail
        go_ret
        exact ⟨rfl, HB.out⟩
end Go.Proofs.Ytcdmkbjibcahcaa
