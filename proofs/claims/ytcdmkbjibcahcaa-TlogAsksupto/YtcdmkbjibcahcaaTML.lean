import Derived.Test.YtcdmkbjibcahcaaTMo
import Derived.Test.YtcdmkbjibcahcaaTMk
import Derived.Test.YtcdmkbjibcahcaaTOps
namespace Go.Proofs.Ytcdmkbjibcahcaa
open Go.RowKit
set_option linter.unusedVariables false
set_option linter.unusedSimpArgs false
set_option maxRecDepth 20000

/-- a law's run over one pair: its box, the script -/
structure RL (w x : World) (gp p bm q b c N : Nat) : Prop where
  px : ∃ v dv S, PX w x p bm v q dv S S b c N (fun _ _ => False) []
  hp : x.heap[gp]? = some (.cells #[.pointer (some ⟨p, 0, none⟩), .pointer (some ⟨q, 0, none⟩)] 53 (0, 0))
theorem bx_new {w x : World} {A : Nat → Nat → Prop} (hs : w.heap.size ≤ x.heap.size) : BX w (x.alloc (.cells #[nilV, nilV, nilV, nilV, .int .i64 0] 59)) A x.heap.size 0 := by
  have hn : ∀ g, nilV.ownBlock ≠ some g := fun g e => by simp [Value.ownBlock] at e
  exact ⟨nilV, nilV, nilV, nilV, 0, [], [], [], [], ⟨⟨Go.heap_alloc_new x _, ownsNil _, ownsNil _, ownsNil _, ownsNil _, fun g e => (hn g e).elim, fun g e => (hn g e).elim, fun g e => (hn g e).elim⟩, fun u hu => by simp at hu, fun u hu => by simp at hu, fun u hu => by simp at hu, rfl, rfl, hs, fun g e => by rcases e with e | e | e | e <;> exact (hn g e).elim, fun u hu => by simp at hu, fun u hu => by simp at hu, fun u hu => by simp at hu, fun u hu => by simp at hu, fun u hu => by simp at hu, by simp, fun u hu => by simp at hu, rfl, by simp⟩⟩
section
variable {w x y : World} {gp p bm q b c N c' N' : Nat}
theorem RL.step {v v' dv dv' : Value} {S S' : LS} (hp : x.heap[gp]? = some (.cells #[.pointer (some ⟨p, 0, none⟩), .pointer (some ⟨q, 0, none⟩)] 53 (0, 0))) (h : PX w x p bm v q dv S S b c N (fun _ _ => False) []) (k : PX w y p bm v' q dv' S' S' b c' N' (fun _ _ => False) []) (f : Ft x y p bm q v v' dv dv' (fun _ _ => False)) : RL w y gp p bm q b c' N' := by
  refine ⟨⟨v', dv', S', k⟩, (f.ob gp (Array.getElem?_eq_some_iff.1 hp).1 (neType hp h.al.rep.row (by decide)) (h.al.rep.mp.neCells hp) (neType hp h.dl.row (by decide)) (fun e => ?_) fun cs t hc hk => ?_).trans hp⟩
  · obtain ⟨ds, hd⟩ := h.dl.lineK e
    exact neType hp hd (by decide) rfl
  · rw [hp] at hc
    simp only [Option.some.injEq, Obj.cells.injEq] at hc
    rw [← hc.2.1] at hk
    revert hk
    unfold kB
    decide
theorem RL.start {y1 : World} {lim ep : Nat} (k1 : LRep y1 p bm (.slice none 0 0) (newS lim ep)) (k2 : DL y1 q (.slice none 0 0) (newS lim ep)) (k3 : Below w.heap.size w y1) (k4 : w.heap.size ≤ p) (k5 : w.heap.size ≤ bm) (k6 : w.heap.size ≤ q) (h1 : 1 ≤ lim) (h2 : lim ≤ 1024) (h3 : 1 ≤ ep) (h4 : ep ≤ 64) :
    RL w ((y1.alloc (.cells #[.pointer (some ⟨p, 0, none⟩), .pointer (some ⟨q, 0, none⟩)] 53)).alloc (.cells #[nilV, nilV, nilV, nilV, .int .i64 0] 59)) y1.heap.size p bm q (y1.heap.size + 1) 0 0 := by
  have hb := below_alloc2 y1 (.cells #[.pointer (some ⟨p, 0, none⟩), .pointer (some ⟨q, 0, none⟩)] 53) (.cells #[nilV, nilV, nilV, nilV, .int .i64 0] 59)
  have hn : ∀ g, nilV.ownBlock ≠ some g := fun g e => by simp [Value.ownBlock] at e
  have hr : ∀ g i, ¬ Rm (.slice none 0 0) g i := fun g i e => hn g e.own
  have hs : (y1.alloc (.cells #[.pointer (some ⟨p, 0, none⟩), .pointer (some ⟨q, 0, none⟩)] 53)).heap.size = y1.heap.size + 1 := by simp
  have bx := bx_new (w := w) (x := y1.alloc (.cells #[.pointer (some ⟨p, 0, none⟩), .pointer (some ⟨q, 0, none⟩)] 53)) (A := AV (fun _ _ => False) (.slice none 0 0) []) (by have := k3.size; omega)
  rw [hs] at bx
  refine ⟨⟨_, _, _, ⟨⟨k1.below hb, k3.trans (hb.mono k3.size), ?_, newS_ok h1 h2 h3 h4, Nat.le_refl _, Nat.le_refl _⟩, k2.below hb, k6, fun g e => (hn g e).elim, bx, fun g i e => e.elim, fun g i e => e.elim, fun u hu => by simp at hu, fun u hu => by simp at hu, List.Pairwise.nil, fun u hu => by simp at hu, fun u hu => by simp at hu⟩⟩, heap_alloc2 y1 _ _⟩
  rintro g (rfl | rfl | e)
  · exact k4
  · exact k5
  · exact (hn g e).elim
theorem RL.b0 (h : RL w x gp p bm q b c N) : x.cell? ⟨gp, 0, none⟩ = some (.pointer (some ⟨p, 0, none⟩)) := by rw [cell_of_row _ _ _ _ _ _ h.hp]; rfl
theorem RL.b1 (h : RL w x gp p bm q b c N) : x.cell? ⟨gp, 1, none⟩ = some (.pointer (some ⟨q, 0, none⟩)) := by rw [cell_of_row _ _ _ _ _ _ h.hp]; rfl
theorem RL.below (h : RL w x gp p bm q b c N) (hb : Below x.heap.size x y) : RL w y gp p bm q b c N := by
  obtain ⟨⟨v, dv, S, k⟩, hp⟩ := h
  exact ⟨⟨v, dv, S, k.below hb⟩, (hb.block gp (Array.getElem?_eq_some_iff.1 hp).1).trans hp⟩
theorem RL.moves (h : RL w x gp p bm q b c N) (hN : N ≤ 10000000000000) (hc : c ≤ 4400000000000) (k o1 o2 o3 : Int) (hid : i64ok o2) (told : Bool) : Calls Try.prog 25 #[.agg #[.pointer (some ⟨p, 0, none⟩), .pointer (some ⟨q, 0, none⟩)], .agg #[.int .i64 k, .int .i64 o1, .int .i64 o2, .int .i64 o3], .bool told, .pointer (some ⟨b, 0, none⟩)] x fun e y => e = .returned (.bool true) ∧ RL w y gp p bm q b (c + 1) (N + 1) := by
  obtain ⟨⟨v, dv, S, hx⟩, hp⟩ := h
  refine (moves_any hx hN hc k o1 o2 o3 hid told).mono ?_
  rintro e y ⟨v', dv', S', rfl, k, f⟩
  exact ⟨rfl, RL.step hp hx k f⟩
theorem RL.bel (h : RL w x gp p bm q b c N) : Below w.heap.size w x := by
  obtain ⟨⟨v, dv, S, k⟩, hp⟩ := h
  exact k.al.bel
end
set_option maxHeartbeats 2000000 in
theorem moves_good (w : World) (lim ep : Nat) (sv : Value) (os : List OpV) (hs : OSl w sv os) (hn : os.length ≤ 4398046511104) (hok : ∀ s ∈ os, s.ok) (h1 : 1 ≤ lim) (h2 : lim ≤ 1024) (h3 : 1 ≤ ep) (h4 : ep ≤ 64) : Calls Try.prog 6 #[.int .i64 (lim : Int), .int .i64 (ep : Int), sv] w fun e w' => e = .returned (.bool true) ∧ Below w.heap.size w w' := by
  have HM := hide fun x => makes_ok x lim ep h1 h2 h3 h4
  have HOS := hide hs
  obtain ⟨sa, sc, rfl, b1, b2, -⟩ := hs
  have HQ : Hid (∀ x i (hi : i < os.length), Below w.heap.size w x → ∃ g off, sa = some ⟨g, off, none⟩ ∧ (x.cell? ⟨g, off + i * 4, none⟩ = some (.int .i64 os[i].kind) ∧ x.cell? ⟨g, off + i * 4 + 1, none⟩ = some (.int .i64 os[i].of)) ∧ x.cell? ⟨g, off + i * 4 + 2, none⟩ = some (.int .i64 os[i].a) ∧ x.cell? ⟨g, off + i * 4 + 3, none⟩ = some (.int .i64 os[i].b) ∧ i64ok os[i].a) := hide fun x i hi hb => by
    obtain ⟨a9, c9, e9, -, -, hq⟩ := HOS.out.below hb
    simp only [Value.slice.injEq, true_and] at e9
    obtain ⟨rfl, rfl⟩ := e9
    obtain ⟨g, off, e1, hc⟩ := hq (by omega)
    obtain ⟨c1, c2, c3⟩ := hc i hi
    exact ⟨g, off, e1, c1, c2, c3, (hok _ (List.getElem_mem hi)).2.2.1⟩
  have HST := hide fun (y1 : World) (p bm q : Nat) k1 k2 k3 k4 k5 k6 => RL.start (w := w) (y1 := y1) (p := p) (bm := bm) (q := q) (lim := lim) (ep := ep) k1 k2 k3 k4 k5 k6 h1 h2 h3 h4
  clear hok HOS
  go_enter Try.func6, Try.ntmps6
  go_wp2_with (first
    | (go_at_call 24; refine (HM.out _).mono ?_; rintro e y1 ⟨p, bm, q, rfl, k1, k2, k3, k4, k5, k6⟩; have HR0 := hide (HST.out y1 p bm q k1 k2 k3 k4 k5 k6); clear k1 k2 k3 k4 k5 k6))
  clear HST HM h1 h2 h3 h4
  generalize hgp : y1.heap.size = gp at *
  clear hgp
  obtain ⟨y2, hy2⟩ : ∃ y2, ((y1.alloc (.cells #[.pointer (some ⟨p, 0, none⟩), .pointer (some ⟨q, 0, none⟩)] 53)).alloc (.cells #[nilV, nilV, nilV, nilV, .int .i64 0] 59)) = y2 := ⟨_, rfl⟩
  rw [hy2] at HR0 ⊢
  clear hy2
  go_loopw [10] (fun u wr => ∃ i : Nat, i ≤ os.length ∧ u = .int .i64 (i : Int) ∧ Hid (RL w wr gp p bm q (gp + 1) i i)) (fun u _ => os.length - (intOf u).toNat)
  case atStart => exact ⟨0, Nat.zero_le _, rfl, HR0⟩
  case round =>
    clear HR0
    obtain ⟨i, hi, rfl, HR⟩ := hrel
    have d0 := HR.out.b0
    have d1 := HR.out.b1
    by_cases hlt : i < os.length
    · have hli : (i : Int) < (os.length : Int) := by omega
      obtain ⟨g, off, rfl, ⟨c0, c1⟩, c2, c3, hid⟩ := HQ.out _ i hlt HR.out.bel
      have HC := hide ((HR.out.below (below_drew0 _ 1)).moves (by omega) (by omega) os[i].kind os[i].of os[i].a os[i].b hid true)
      clear HQ hid
      generalize os[i].kind = kk at *
      generalize os[i].of = of at *
      generalize os[i].a = oa at *
      generalize os[i].b = ob at *
      go_wp2_with fail
      refine wp_still_tail 6 (by kernel_rfl) (by kernel_rfl) ?_
      simp only [List.take_succ_cons, List.take_zero, List.drop_succ_cons, List.drop_zero]
      repeat still_step
      refine wpStill_nil ?_
      go_wp2_with (go_at_call 25; refine HC.out.mono ?_; rintro e y3 ⟨rfl, k⟩; have HR1 := hide k; clear k)
      go_roundw
      case rel => exact ⟨i + 1, by omega, by go_num, HR1⟩
      case measure => simp [intOf]; omega
    · have hli : ¬ (i : Int) < (os.length : Int) := by omega
      clear HQ
      go_wp2_with fail
      go_ret
      exact ⟨rfl, HR.out.bel⟩
theorem moves_law (w : World) (a b : Int) (sv : Value) (os : List OpV) (hs : OSl w sv os) (hn : os.length ≤ 4398046511104 ∧ ∀ s ∈ os, s.ok) : Calls Try.prog 6 #[.int .i64 a, .int .i64 b, sv] w fun e w' => e = .returned (.bool true) ∧ Below w.heap.size w w' := by
  by_cases h : 1 ≤ a ∧ a ≤ 1024 ∧ 1 ≤ b ∧ b ≤ 64
  · obtain ⟨lim, rfl⟩ : ∃ n : Nat, a = (n : Int) := ⟨a.toNat, by omega⟩
    obtain ⟨ep, rfl⟩ : ∃ n : Nat, b = (n : Int) := ⟨b.toNat, by omega⟩
    exact moves_good w lim ep sv os hs hn.1 hn.2 (by omega) (by omega) (by omega) (by omega)
  · have HM := hide fun x => makes_bad x a b h
    obtain ⟨sa, sc, rfl, b1, b2, -⟩ := hs
    have hn1 := hn.1
    clear h hn
    go_enter Try.func6, Try.ntmps6
    go_wp2_with (first
      | (go_at_call 24; refine (HM.out _).mono ?_; rintro e y1 ⟨rfl, k⟩; have HB := hide (k.trans ((below_alloc2 y1 (.cells #[.pointer none, .pointer none] 53) (.cells #[nilV, nilV, nilV, nilV, .int .i64 0] 59)).mono k.size)); have d0 : ((y1.alloc (.cells #[.pointer none, .pointer none] 53)).alloc (.cells #[nilV, nilV, nilV, nilV, .int .i64 0] 59)).cell? ⟨y1.heap.size, 0, none⟩ = some (.pointer none) := (by rw [cell_of_row _ _ _ _ _ _ (heap_alloc2 y1 _ _)]; rfl); clear k))
    go_loopw [10] (fun u wr => u = .int .i64 0 ∧ wr = (y1.alloc (.cells #[.pointer none, .pointer none] 53)).alloc (.cells #[nilV, nilV, nilV, nilV, .int .i64 0] 59)) (fun u _ => 0)
    case atStart => exact ⟨rfl, rfl⟩
    case round =>
      obtain ⟨rfl, rfl⟩ := hrel
      by_cases hlt : 0 < os.length
      · have hli : (0 : Int) < (os.length : Int) := by omega
        go_wp2_with fail
        go_ret
        exact ⟨rfl, HB.out⟩
      · have hli : ¬ (0 : Int) < (os.length : Int) := by omega
        go_wp2_with fail
        go_ret
        exact ⟨rfl, HB.out⟩
end Go.Proofs.Ytcdmkbjibcahcaa
