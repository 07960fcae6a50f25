import Derived.Test.YtkjaaknlhmneoaaMtHnA
namespace Go.Proofs.Ytkjaaknlhmneoaa
open Go.RowKit
open Num
set_option linter.unusedVariables false
set_option linter.unusedSimpArgs false
set_option maxRecDepth 20000

/-- a list of lists of bytes, wherever they lie -/
def LL (w : World) (v : Value) (Bs : List (List Nat)) : Prop := ∃ a cap, v = .slice a Bs.length cap ∧ Bs.length ≤ cap ∧ cap ≤ maxLen ∧ (a = none → cap = 0) ∧
  (0 < Bs.length → ∃ O off, a = some ⟨O, off, none⟩ ∧ O < w.heap.size ∧ ∀ k, k < Bs.length → ∃ u, w.cell? ⟨O, off + k, none⟩ = some u ∧ BSl w u (Bs.getD k []) ∧ (Bs.getD k []).length ≤ 140737488351232)
theorem LL.below {w w' : World} {v : Value} {Bs : List (List Nat)} (h : LL w v Bs) (hb : Below w.heap.size w w') : LL w' v Bs := by
  obtain ⟨a, cap, h1, h2, h3, h4, h5⟩ := h
  refine ⟨a, cap, h1, h2, h3, h4, fun hp => ?_⟩
  obtain ⟨O, off, e, hO, hc⟩ := h5 hp
  refine ⟨O, off, e, Nat.lt_of_lt_of_le hO hb.size, fun k hk => ?_⟩
  obtain ⟨u, c1, c2, c3⟩ := hc k hk
  exact ⟨u, (hb.cell (p := ⟨O, off + k, none⟩) hO).trans c1, c2.below hb, c3⟩
/-- copies with marks behind them: a row of them -/
structure HBI (w wr : World) (v : Value) (Bs : List (List Nat)) (i : Nat) (gs : List Nat) (xs : List Value) : Prop where
  len : gs.length = i
  own : wr.ownsRow 0 45 1 v i xs
  xs : ∀ k, k < i → xs[k]? = some (sl (gs.getD k 0) ((Bs.getD k []).length + 6))
  vb : ∀ g, v.ownBlock = some g → w.heap.size ≤ g
  pc : ∀ k, k < i → PieceAt wr (gs.getD k 0) (Bs.getD k [] ++ marks) ∧ w.heap.size ≤ gs.getD k 0
  bel : Below w.heap.size w wr
theorem HBI.start {w wr : World} (Bs : List (List Nat)) (hb : Below w.heap.size w wr) : HBI w wr (.slice none 0 0) Bs 0 [] [] :=
  ⟨rfl, ⟨rfl, .inl ⟨rfl, rfl⟩⟩, fun k hk => by omega, fun g hg => by simp [Value.ownBlock] at hg, fun k hk => by omega, hb⟩
theorem HBI.lt {w wr : World} {v : Value} {Bs : List (List Nat)} {i : Nat} {gs : List Nat} {xs : List Value} (h : HBI w wr v Bs i gs xs) {g : Nat} (hg : v.ownBlock = some g) : g < wr.heap.size := by
  rcases h.own.2 with ⟨e0, _⟩ | ⟨g', cap, cur, rfl, _, hh, _⟩
  · rw [e0] at hg; simp [Value.ownBlock] at hg
  · simp only [Value.ownBlock, Option.some.injEq] at hg
    subst hg; exact (Array.getElem?_eq_some_iff.1 hh).1
theorem HBI.apart {w wr : World} {v : Value} {Bs : List (List Nat)} {i : Nat} {gs : List Nat} {xs : List Value} (h : HBI w wr v Bs i gs xs) {g : Nat} (hg : v.ownBlock = some g) {b : Nat} {c : Array Value} (hb : wr.heap[b]? = some (.cells c 5 (0, 0))) : b ≠ g := fun e => by
  rcases h.own.2 with ⟨e0, _⟩ | ⟨g', cap, cur, rfl, _, hh, _⟩
  · rw [e0] at hg; simp [Value.ownBlock] at hg
  · simp only [Value.ownBlock, Option.some.injEq] at hg
    subst hg
    rw [e, hh] at hb
    simp at hb
theorem HBI.moved {w wr x : World} {v : Value} {Bs : List (List Nat)} {i : Nat} {gs : List Nat} {xs : List Value} (h : HBI w wr v Bs i gs xs) (hb : Below wr.heap.size wr x) : HBI w x v Bs i gs xs :=
  ⟨h.len, rowKept h.own (fun g hg => hb.block g (h.lt hg)), h.xs, h.vb, fun k hk => ⟨(h.pc k hk).1.below hb, (h.pc k hk).2⟩, h.bel.trans (hb.mono h.bel.size)⟩
theorem HBI.push {w x y : World} {v v' : Value} {Bs : List (List Nat)} {i g0 : Nat} {gs : List Nat} {xs : List Value} (h : HBI w x v Bs i gs xs) (hg : PieceAt x g0 (Bs.getD i [] ++ marks)) (hg0 : w.heap.size ≤ g0)
    (ho : y.ownsRow 0 45 1 v' (i + 1) (xs ++ [sl g0 ((Bs.getD i []).length + 6)]))
    (hc : (v'.ownBlock = some x.heap.size ∧ x.grownBy y none) ∨ (∃ g, v.ownBlock = some g ∧ v'.ownBlock = some g ∧ x.grownBy y (some g))) : HBI w y v' Bs (i + 1) (gs ++ [g0]) (xs ++ [sl g0 ((Bs.getD i []).length + 6)]) := by
  have hw := h.bel.size
  have keep : ∀ b, b < x.heap.size → (∀ g, v.ownBlock = some g → b ≠ g) → y.heap[b]? = x.heap[b]? := fun b hb hne => by
    rcases hc with ⟨_, hgr⟩ | ⟨g, hv, _, hgr⟩
    · exact hgr.block b hb (by simp)
    · exact hgr.block b hb (by simpa using hne g hv)
  have piece : ∀ {g : Nat} {l : List Nat}, PieceAt x g l → PieceAt y g l := fun hp => ⟨(keep _ (Array.getElem?_eq_some_iff.1 hp.1).1 (fun g hv => h.apart hv hp.1)).trans hp.1, hp.2⟩
  have hxl : xs.length = i := by have := h.own.1; simpa using this
  have hgd : ∀ k, k < i → (gs ++ [g0]).getD k 0 = gs.getD k 0 := fun k hk => by
    rw [List.getD_eq_getElem?_getD, List.getD_eq_getElem?_getD, List.getElem?_append_left (by rw [h.len]; exact hk)]
  have hgl : (gs ++ [g0]).getD i 0 = g0 := by
    rw [List.getD_eq_getElem?_getD, List.getElem?_append_right (by rw [h.len]; exact Nat.le_refl _), h.len]; simp
  have hsz : x.heap.size ≤ y.heap.size := by
    rcases hc with ⟨_, hgr⟩ | ⟨g, _, _, hgr⟩
    · exact hgr.size
    · exact hgr.size
  refine ⟨by simp [h.len], ho, fun k hk => ?_, fun g hg' => ?_, fun k hk => ?_, ?_⟩
  · by_cases e : k < i
    · rw [hgd k e, List.getElem?_append_left (by omega)]; exact h.xs k e
    · obtain rfl : k = i := by omega
      rw [hgl, List.getElem?_append_right (by omega), hxl]; simp
  · rcases hc with ⟨e, _⟩ | ⟨g2, hv, e, _⟩
    · rw [e] at hg'; simp only [Option.some.injEq] at hg'; omega
    · rw [e] at hg'; simp only [Option.some.injEq] at hg'; subst hg'; exact h.vb _ hv
  · by_cases e : k < i
    · rw [hgd k e]; exact ⟨piece (h.pc k e).1, (h.pc k e).2⟩
    · obtain rfl : k = i := by omega
      rw [hgl]; exact ⟨piece hg, hg0⟩
  · have hb := h.bel
    rcases hc with ⟨_, hgr⟩ | ⟨g, hv, _, hgr⟩
    · exact ⟨hgr.os.trans hb.os, hgr.tape.trans hb.tape, hgr.output.trans hb.output, Nat.le_trans hb.size hsz, fun j hj => (hgr.block j (by omega) (by simp)).trans (hb.block j hj)⟩
    · exact ⟨hgr.os.trans hb.os, hgr.tape.trans hb.tape, hgr.output.trans hb.output, Nat.le_trans hb.size hsz, fun j hj => (hgr.block j (by omega) (by have := h.vb g hv; simp; omega)).trans (hb.block j hj)⟩
/-- .. as they lie when all are there -/
def HN (w : World) (v : Value) (Bs : List (List Nat)) (gs : List Nat) : Prop := (∃ a cap, v = .slice a Bs.length cap ∧ Bs.length ≤ cap ∧ (0 < Bs.length → ∃ O, a = some ⟨O, 0, none⟩ ∧ O < w.heap.size ∧ ∀ k, k < Bs.length → w.cell? ⟨O, k, none⟩ = some (sl (gs.getD k 0) ((Bs.getD k []).length + 6)))) ∧ ∀ k, k < Bs.length → PieceAt w (gs.getD k 0) (Bs.getD k [] ++ marks)
theorem HN.below {w w' : World} {v : Value} {Bs : List (List Nat)} {gs : List Nat} (h : HN w v Bs gs) (hb : Below w.heap.size w w') : HN w' v Bs gs := by
  obtain ⟨⟨a, cap, h1, h2, h3⟩, h4⟩ := h
  refine ⟨⟨a, cap, h1, h2, fun hp => ?_⟩, fun k hk => (h4 k hk).below hb⟩
  obtain ⟨O, e, hO, hc⟩ := h3 hp
  exact ⟨O, e, Nat.lt_of_lt_of_le hO hb.size, fun k hk => (hb.cell (p := ⟨O, k, none⟩) hO).trans (hc k hk)⟩
theorem HBI.done {w wr : World} {v : Value} {Bs : List (List Nat)} {gs : List Nat} {xs : List Value} (h : HBI w wr v Bs Bs.length gs xs) : HN wr v Bs gs := by
  refine ⟨?_, fun k hk => (h.pc k hk).1⟩
  rcases id h.own.2 with ⟨rfl, h0⟩ | ⟨g, cap, cur, rfl, _, hh, h3, h4, _⟩
  · exact ⟨none, 0, by rw [h0], by omega, fun hp => by omega⟩
  · refine ⟨some ⟨g, 0, none⟩, cap, rfl, h3, fun _ => ⟨g, rfl, (Array.getElem?_eq_some_iff.1 hh).1, fun k hk => ?_⟩⟩
    have := h.own.cells (g := g) rfl k _ (h.xs k hk)
    rw [Addr.add_lit, Nat.zero_add] at this
    exact this
set_option maxHeartbeats 2000000 in
theorem handBlocks_any (w : World) (v : Value) (Bs : List (List Nat)) (hv : LL w v Bs) (hN : Bs.length ≤ 5864062014634) :
    Calls Try.prog 26 #[v] w fun e w' => ∃ u gs, e = .returned u ∧ HN w' u Bs gs ∧ Below w.heap.size w w' := by
  have HV := hide hv
  obtain ⟨a, cap, rfl, q1, q2, q3, q4⟩ := id hv
  have HST := hide (HBI.start Bs (Below.refl w.heap.size w))
  have HFI := hide fun wr u gs xs (h : HBI w wr u Bs Bs.length gs xs) => h.done
  have HEL : Hid (∀ wr i, Below w.heap.size w wr → i < Bs.length → ∃ O off u, a = some ⟨O, off, none⟩ ∧ wr.cell? ⟨O, off + i, none⟩ = some u ∧ Calls Try.prog 48 #[u] wr fun e w' => e = .returned (sl wr.heap.size ((Bs.getD i []).length + 6)) ∧ PieceAt w' wr.heap.size (Bs.getD i [] ++ marks) ∧ Below wr.heap.size wr w') := hide fun wr i hb hi => by
    obtain ⟨O, off, e, hO, hc⟩ := q4 (by omega)
    obtain ⟨u, c1, c2, c3⟩ := hc i hi
    exact ⟨O, off, u, e, (hb.cell (p := ⟨O, off + i, none⟩) hO).trans c1, hand_any wr u _ (c2.below hb) (by omega)⟩
  obtain ⟨i0, hi0, hz0, hz1, hz2⟩ := info_parts Try.infoBy
  unfold maxLen at q2
  clear q3 q4 hv
  generalize hLL : Bs.length = N at *
  have HLN := hide hLL
  clear hLL
  go_enter Try.func26, Try.ntmps26
  go_wp2_with fail
  go_loopw [3, 4] (fun l x wr => ∃ (i : Nat) (gs : List Nat) (xs : List Value), i ≤ N ∧ x = .int .i64 (i : Int) ∧ HBI w wr l Bs i gs xs) (fun _ x _ => N - (intOf x).toNat)
  case atStart => exact ⟨0, [], [], Nat.zero_le _, rfl, HST.out⟩
  case round =>
    obtain ⟨i, gs, xs, hi, rfl, hI⟩ := hrel
    have HI := hide hI
    clear hI HST
    by_cases hlt : i < N
    · have i1 : (i : Int) < (N : Int) := by omega
      obtain ⟨O, off, u, rfl, c1, hc⟩ := HEL.out wr i HI.out.bel hlt
      have HC := hide hc
      clear hc
      have HPU := hide fun x y v' (h : HBI w x u3 Bs i gs xs) => h.push (y := y) (v' := v') (g0 := wr.heap.size)
      obtain ⟨LI, hLI⟩ : ∃ LI, (Bs.getD i []).length + 6 = LI := ⟨_, rfl⟩
      rw [hLI] at HC HPU
      clear hLI
      go_wp2_with (first
        | (go_at_call 48; refine HC.out.mono ?_; rintro e y ⟨rfl, hp, hb⟩; have hba := hb.alloc hb.size (.cells #[sl wr.heap.size LI] 45); have hn := (Below.refl y.heap.size y).alloc (Nat.le_refl _) (.cells #[sl wr.heap.size LI] 45); have HX := hide (HI.out.moved hba); have HPX := hide (hp.below hn); have HOX := hide HX.out.own; have HNX : Hid (∀ k z, [sl wr.heap.size LI][k]? = some z → (y.alloc (.cells #[sl wr.heap.size LI] 45)).cell? ((⟨y.heap.size, 0, none⟩ : Addr).add k) = some z) := hide (fun k z hz => by
            have hk : k = 0 := by
              have := (List.getElem?_eq_some_iff.1 hz).1
              simp at this; exact this
            subst hk
            rw [Addr.add_lit, Nat.zero_add, cell_of_row _ _ _ _ _ _ (Go.heap_alloc_new _ _)]
            simpa using hz); clear hp hb hba hn HC)
        | (at_builtin; refine wpList_append1 _ rfl (.tmp 11) (.tmp 17) 36 rfl 45 i0 (.slice none 0 0) 24 Try.underlying36 hi0 hz0 hz1 hz2 rfl _ i _ rfl HOX.out ⟨y.heap.size, 0, none⟩ 1 (sl wr.heap.size LI) rfl HNX.out rfl (by unfold maxLen; omega) (by omega) ?_; intro v' z ho hc; have HZ := hide (HPU.out _ z v' HX.out HPX.out HI.out.bel.size ho hc); clear ho hc HOX HNX HPX HX))
      go_roundw
      case rel => exact ⟨i + 1, _, _, by omega, by go_num, HZ.out⟩
      case measure => simp [intOf]; omega
    · obtain rfl : N = i := by omega
      rw [← HLN.out] at HI
      have HF2 := hide HI.out.done
      have HB2 := hide HI.out.bel
      clear HI HFI HEL
      go_wp2_with fail
      go_ret
      exact ⟨_, gs, rfl, HF2.out, HB2.out⟩
end Go.Proofs.Ytkjaaknlhmneoaa
