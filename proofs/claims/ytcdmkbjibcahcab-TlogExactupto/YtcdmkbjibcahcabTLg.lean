import Derived.Test.YtcdmkbjibcahcabTMp
namespace Go.Proofs.Ytcdmkbjibcahcab
open Go.RowKit
set_option linter.unusedVariables false
set_option linter.unusedSimpArgs false
set_option maxRecDepth 20000

/-- a log's state: its bounds, the open epoch's number, the first write's turn, the writes -/
structure LS where
  lim : Nat
  ep : Nat
  now : Nat
  gone : Nat
  ls : Ls
def LS.es (S : LS) : List En := S.ls.map Prod.fst
theorem LS.es_len (S : LS) : S.es.length = S.ls.length := by simp [LS.es]
def LS.row (S : LS) (v : Value) (bm : Nat) : Array Value := #[.int .i64 (S.lim : Int), .int .i64 (S.ep : Int), .int .i64 (S.now : Int), v, .map (some bm), .int .i64 (S.gone : Int)]
/-- a log in memory -/
structure LRep (w : World) (p bm : Nat) (v : Value) (S : LS) : Prop where
  row : w.heap[p]? = some (.cells (S.row v bm) 69 (0, 0))
  lst : ERow w v S.es
  mp : MS w bm S.gone S.ls
def LU (p bm : Nat) (v : Value) (g : Nat) : Prop := g = p ∨ g = bm ∨ v.ownBlock = some g
section
variable {w w' : World} {p bm : Nat} {v : Value} {S : LS}
theorem LRep.lt (h : LRep w p bm v S) : ∀ g, LU p bm v g → g < w.heap.size := by
  rintro g (rfl | rfl | e)
  · exact (Array.getElem?_eq_some_iff.1 h.row).1
  · exact h.mp.lt
  · exact h.lst.lt e
theorem LRep.kept (h : LRep w p bm v S) (hk : ∀ g, LU p bm v g → w'.heap[g]? = w.heap[g]?) : LRep w' p bm v S :=
  ⟨(hk p (.inl rfl)).trans h.row, h.lst.kept fun g e => hk g (.inr (.inr e)), h.mp.kept (hk bm (.inr (.inl rfl)))⟩
theorem LRep.below (h : LRep w p bm v S) (hb : Below w.heap.size w w') : LRep w' p bm v S := h.kept fun g e => hb.block g (h.lt g e)
theorem LRep.c (h : LRep w p bm v S) (i : Nat) : w.cell? ⟨p, i, none⟩ = (S.row v bm)[i]? := cell_of_row _ _ _ _ _ _ h.row
theorem LRep.f (h : LRep w p bm v S) (i : Nat) : w.frozen? ⟨p, i, none⟩ = false := frozen_of_row _ _ _ _ 69 h.row
theorem LRep.c0 (h : LRep w p bm v S) : w.cell? ⟨p, 0, none⟩ = some (.int .i64 (S.lim : Int)) := h.c 0
theorem LRep.c1 (h : LRep w p bm v S) : w.cell? ⟨p, 1, none⟩ = some (.int .i64 (S.ep : Int)) := h.c 1
theorem LRep.c2 (h : LRep w p bm v S) : w.cell? ⟨p, 2, none⟩ = some (.int .i64 (S.now : Int)) := h.c 2
theorem LRep.c3 (h : LRep w p bm v S) : w.cell? ⟨p, 3, none⟩ = some v := h.c 3
theorem LRep.c4 (h : LRep w p bm v S) : w.cell? ⟨p, 4, none⟩ = some (.map (some bm)) := h.c 4
theorem LRep.c5 (h : LRep w p bm v S) : w.cell? ⟨p, 5, none⟩ = some (.int .i64 (S.gone : Int)) := h.c 5
theorem LRep.ap (h : LRep w p bm v S) : p ≠ bm ∧ (∀ g, v.ownBlock = some g → g ≠ p ∧ g ≠ bm) := by
  refine ⟨h.mp.neCells h.row, fun g e => ?_⟩
  obtain ⟨cs, hc⟩ := h.lst.cells e
  exact ⟨neType hc h.row (by decide), h.mp.neCells hc⟩
end
/-- what the reading calls say -/
def oldE (S : LS) : Int := if S.es.length = 0 then (S.now : Int) else (S.es.getD 0 e0).2.2
def frontN (S : LS) : Nat := (S.es.takeWhile fun x => x.2.2 == (S.es.getD 0 e0).2.2).length
def joinN (S : LS) : Nat := (S.es.reverse.takeWhile fun x => x.2.2 == (S.now : Int)).length
theorem takeWhile_stop {α : Type} (p : α → Bool) (l : List α) (j : Nat) (h : ∀ i x, i < j → l[i]? = some x → p x = true) (hj : j ≤ l.length) (hs : ∀ x, l[j]? = some x → p x = false) : (l.takeWhile p).length = j := by
  induction l generalizing j with
  | nil => simp at hj; subst hj; rfl
  | cons a l ih =>
    cases j with
    | zero => rw [List.takeWhile_cons, hs a rfl]; rfl
    | succ j =>
      rw [List.takeWhile_cons, h 0 a (by omega) rfl, if_pos rfl, List.length_cons, ih j (fun i x hi hx => h (i + 1) x (by omega) (by simpa using hx)) (by simpa using hj) (fun x hx => hs x (by simpa using hx))]
theorem frontN_stop (S : LS) (j : Nat) (h : ∀ i, i < j → (S.es.getD i e0).2.2 = (S.es.getD 0 e0).2.2) (hj : j ≤ S.es.length) (hs : j < S.es.length → (S.es.getD j e0).2.2 ≠ (S.es.getD 0 e0).2.2) : frontN S = j := by
  refine takeWhile_stop _ _ j (fun i x hi hx => ?_) hj (fun x hx => ?_)
  · have := h i hi
    rw [List.getD, hx] at this
    simpa using this
  · have hl := (List.getElem?_eq_some_iff.1 hx).1
    have := hs hl
    rw [List.getD, hx] at this
    simpa using this
theorem joinN_stop (S : LS) (j : Nat) (h : ∀ i, i < j → (S.es.getD (S.es.length - 1 - i) e0).2.2 = (S.now : Int)) (hj : j ≤ S.es.length) (hs : j < S.es.length → (S.es.getD (S.es.length - 1 - j) e0).2.2 ≠ (S.now : Int)) : joinN S = j := by
  have hr : ∀ i, i < S.es.length → S.es.reverse[i]? = some (S.es.getD (S.es.length - 1 - i) e0) := fun i hi => by
    rw [List.getElem?_reverse hi]
    simp [List.getD, show S.es.length - 1 - i < S.es.length by omega]
  refine takeWhile_stop _ _ j (fun i x hi hx => ?_) (by simpa using hj) (fun x hx => ?_)
  · rw [hr i (by omega)] at hx
    obtain rfl := Option.some.inj hx
    simpa using h i hi
  · have hl := (List.getElem?_eq_some_iff.1 hx).1
    simp only [List.length_reverse] at hl
    rw [hr j hl] at hx
    obtain rfl := Option.some.inj hx
    simpa using hs hl
set_option maxHeartbeats 1000000 in
theorem joined_any (w : World) (p bm : Nat) (v : Value) (S : LS) (h : LRep w p bm v S) (hl : S.es.length ≤ 2000) : Calls Try.prog 39 #[.pointer (some ⟨p, 0, none⟩)] w fun e w' => e = .returned (.int .i64 (joinN S : Int)) ∧ ∃ m, w' = w.drewN m := by
  obtain ⟨a, c, rfl, b1, b2, hc⟩ := h.lst.form
  unfold maxLen at b2
  have c2 := h.c2
  have c3 := h.c3
  have HC := hide hc
  have HS : Hid (∀ j, _ → _ → _ → joinN S = j) := hide (joinN_stop S)
  clear h hc
  generalize S.es.length = n at *
  generalize joinN S = R at *
  generalize hE : S.es = E at *
  generalize S.now = now at *
  go_enter Try.func39, Try.ntmps39
  go_wp2_with fail
  go_loopw [3] (fun x wr => ∃ j : Nat, j ≤ n ∧ x = .int .i64 (j : Int) ∧ (∃ m, wr = w.drewN m) ∧ ∀ i, i < j → (E.getD (n - 1 - i) e0).2.2 = (now : Int)) (fun x _ => n - (intOf x).toNat)
  case atStart => exact ⟨0, Nat.zero_le _, rfl, ⟨0, rfl⟩, fun i hi => by omega⟩
  case round =>
    obtain ⟨j, hj, rfl, ⟨m0, rfl⟩, hz⟩ := hrel
    have HZ := hide hz
    clear hz
    by_cases hlt : j < n
    · obtain ⟨g, off, rfl, _, _, _, d1⟩ := HC.out (n - 1 - j) (by omega)
      by_cases hxy : (E.getD (n - 1 - j) e0).2.2 = (now : Int)
      · have HN : Hid (∀ i, i < j + 1 → (E.getD (n - 1 - i) e0).2.2 = (now : Int)) := hide fun i hi => by
          by_cases e : i = j
          · rw [e]; exact hxy
          · exact HZ.out i (by omega)
        rw [hxy] at d1
        clear hxy HZ HS HC
        obtain ⟨k, rfl⟩ : ∃ k, n = k + 1 + j := ⟨n - 1 - j, by omega⟩
        rw [show k + 1 + j - 1 - j = k by omega] at d1
        have hd1 : ((j : Int) < (k : Int) + 1 + (j : Int)) = True := by simp; omega
        have hd2 : ((k : Int) + 1 + (j : Int) - 1 - (j : Int)) = (k : Int) := by omega
        go_wp2_with fail
        go_quiet (fail)
        go_wp2_with fail
        go_roundw
        case rel => exact ⟨j + 1, by omega, by go_num, ⟨_, rfl⟩, HN.out⟩
        case measure => simp [intOf]; omega
      · have hR := HS.out j HZ.out (by omega) fun _ => hxy
        subst hR
        have hne : ((E.getD (n - 1 - R) e0).2.2 == (now : Int)) = false := by simpa using hxy
        clear hxy HZ HS HC
        obtain ⟨k, rfl⟩ : ∃ k, n = k + 1 + R := ⟨n - 1 - R, by omega⟩
        rw [show k + 1 + R - 1 - R = k by omega] at d1 hne
        have hd1 : ((R : Int) < (k : Int) + 1 + (R : Int)) = True := by simp; omega
        have hd2 : ((k : Int) + 1 + (R : Int) - 1 - (R : Int)) = (k : Int) := by omega
        generalize (E.getD k e0).2.2 = x at *
        go_wp2_with fail
        go_quiet (fail)
        go_wp2_with fail
        go_ret
        exact ⟨rfl, m0 + nq, World.drewN_drewN ..⟩
    · have ej : j = n := by omega
      subst ej
      have hR := HS.out j HZ.out (Nat.le_refl _) fun h => absurd h (by omega)
      subst hR
      clear HC HS HZ
      go_wp2_with fail
      go_quiet (fail)
      go_wp2_with fail
      go_ret
      exact ⟨rfl, m0 + nq, World.drewN_drewN ..⟩
end Go.Proofs.Ytcdmkbjibcahcab
