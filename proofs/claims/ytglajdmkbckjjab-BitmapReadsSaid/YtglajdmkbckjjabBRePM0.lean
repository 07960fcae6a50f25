import Derived.Test.YtglajdmkbckjjabBRa
import Derived.Test.YtglajdmkbckjjabBSettled
import Derived.Deep.RegionHeld3
import Derived.Test.YtglajdmkbckjjabRows
import Derived.WalkKit
import Derived.ProofKit
import Derived.OpenShut
import Derived.ChangeOld
import Derived.SizedLaws
import Derived.ChangeSlices
import Derived.Deep.Slices
import Derived.ChangeSame
import Derived.Deep.DeepHandedRow
namespace Go.Proofs.Ytglajdmkbckjjab
open Go.RowKit Go.Shelf
set_option linter.unusedVariables false
set_option linter.unusedSimpArgs false
set_option maxRecDepth 20000

set_option maxHeartbeats 1000000 in
theorem untouched_any {N : Nat} {w : World} {v va : Value} {l : List Nat} (hc : Bo N w v l) (hv : CSl w va l) (hr : l.length ≤ 140737488351232) :
    Calls Try.prog 7 #[v, va] w fun e w' => e = .returned (.bool true) ∧ Below w.heap.size w w' := by
  have hs := sameBytes_any (hc.cslZ hr hv.lt) hv
  rw [decide_eq_true rfl] at hs
  obtain ⟨g, rfl, -, hg⟩ := hc
  have HK : Hid (∀ x, Qt w x → x.cell? ⟨g, l.length, none⟩ = some (.int .u8 199) ∧ x.cell? ⟨g, l.length + 1, none⟩ = some (.int .u8 199) ∧ x.cell? ⟨g, l.length + 2, none⟩ = some (.int .u8 199)) := hide fun x hx => by
    have hgx := hg
    rw [← hx.1] at hgx
    refine ⟨?_, ?_, ?_⟩
    · rw [cell_of_row _ _ _ _ _ _ hgx, bpRow_get _ (by omega), if_neg (by omega)]; rfl
    · rw [cell_of_row _ _ _ _ _ _ hgx, bpRow_get _ (by omega), if_neg (by omega)]; rfl
    · rw [cell_of_row _ _ _ _ _ _ hgx, bpRow_get _ (by omega), if_neg (by omega)]; rfl
  have HS := hide hs
  obtain ⟨a, cap, rfl, -⟩ := hv
  clear hs hg
  generalize l.length = L at *
  go_enter Try.func7, Try.ntmps7
  go_wp2_with (go_at_call 22; refine HS.out.mono ?_; clear HS; rintro e w1 ⟨rfl, hq⟩; obtain ⟨k0, k1, k2⟩ := HK.out w1 hq; have HQ := hide hq; clear hq HK)
  go_ret
  exact ⟨rfl, HQ.out.2⟩

/-- words that the book does not touch -/
def Sf (x : World) (U : Nat → Prop) (L : List (Value × List Nat)) : Prop := ∀ p ∈ L, WSl x p.1 p.2 ∧ ∀ g, blockOf p.1 = some g → ¬ U g ∧ g < x.heap.size
theorem Sf.below {x y : World} {U : Nat → Prop} {L : List (Value × List Nat)} (h : Sf x U L) (hb : Below x.heap.size x y) : Sf y U L := fun p hp => ⟨(h p hp).1.below hb, fun g e => ⟨((h p hp).2 g e).1, Nat.lt_of_lt_of_le ((h p hp).2 g e).2 hb.size⟩⟩
theorem Sf.add {x y : World} {U : Nat → Prop} {L : List (Value × List Nat)} {v : Value} {l : List Nat} (h : Sf x U L) (hb : Below x.heap.size x y) (hU : ∀ b, U b → b < x.heap.size) (hv : WSl y v l) (hn : ∀ b, blockOf v = some b → x.heap.size ≤ b ∧ b < y.heap.size) : Sf y U ((v, l) :: L) := fun p hp => by
  rcases List.mem_cons.1 hp with rfl | hp
  · exact ⟨hv, fun g e => ⟨fun hu => by have := hU g hu; have := (hn g e).1; omega, (hn g e).2⟩⟩
  · exact h.below hb p hp
/-- the book, and what stands beside it -/
structure Bq (w : World) (late : Bool) (k c : Nat) (L : List (Value × List Nat)) (I : Option (Value × List Nat)) (x : World) : Prop where
  bel : Below w.heap.size w x
  ex : ∃ U, BkB late x k U c ∧ (∀ b, U b → w.heap.size ≤ b) ∧ Sf x U L ∧ ∀ q, I = some q → Bo 0 x q.1 q.2 ∧ ∀ g, blockOf q.1 = some g → ¬ U g
theorem Bo.kept {N : Nat} {x y : World} {v : Value} {l : List Nat} (h : Bo N x v l) (hk : ∀ g, blockOf v = some g → g < x.heap.size → y.heap[g]? = x.heap[g]?) : Bo N y v l := by
  obtain ⟨g, rfl, hg, hh⟩ := h
  exact ⟨g, rfl, hg, (hk g rfl (Array.getElem?_eq_some_iff.1 hh).1).trans hh⟩
theorem Bq.below {w x y : World} {late : Bool} {k c : Nat} {L : List (Value × List Nat)} {I : Option (Value × List Nat)} (h : Bq w late k c L I x) (hb : Below x.heap.size x y) : Bq w late k c L I y := by
  obtain ⟨h0, U, h1, h2, h3, h4⟩ := h
  exact ⟨h0.trans (hb.mono h0.size), U, h1.below hb, h2, h3.below hb, fun q e => ⟨(h4 q e).1.kept fun g _ hg => hb.block g hg, (h4 q e).2⟩⟩
/-- an answer is kept: it is in new memory since x0 -/
theorem Bq.keep {w x0 x : World} {late : Bool} {k c : Nat} {L : List (Value × List Nat)} {I : Option (Value × List Nat)} {v : Value} {l : List Nat} (h : Bq w late k c L I x0) (hb : Below x0.heap.size x0 x) (hv : x.ownsRow 0 58 1 v l.length (l.map u64V)) (hw : WSl x v l) (hl : l.length ≤ 1024) (hc : c ≤ 4000000000000) (hn : ∀ b, v.ownBlock = some b → x0.heap.size ≤ b) (L2 : List (Value × List Nat))
    (hL2 : ∀ p ∈ L2, WSl x p.1 p.2 ∧ ∀ g, blockOf p.1 = some g → x0.heap.size ≤ g ∧ g < x.heap.size ∧ v.ownBlock ≠ some g) :
    Calls Try.prog 9 #[.pointer (some ⟨k, 0, none⟩), v] x fun e w' => e = .returned (.tuple #[]) ∧ Bq w late k (c + 1) (L2 ++ L) I w' ∧ Chg (fun b => (w.heap.size ≤ b ∧ b < x0.heap.size) ∨ v.ownBlock = some b) x w' := by
  obtain ⟨h0, U, h1, h2, h3, h4⟩ := h
  have hlt := h1.lt
  refine (keepAny (h1.below hb) hv hw (by omega) hc fun b e hu => by have := hn b e; have := hlt b hu; omega).mono ?_
  rintro e w' ⟨rfl, U', q1, q2, q3⟩
  have hxs := hb.size
  have hws := h0.size
  have hbel : Below w.heap.size x w' := q2.below (by omega) fun b e => by
    rcases e with e | e
    · exact h2 b e
    · have := hn b e; omega
  refine ⟨rfl, ⟨(h0.trans (hb.mono h0.size)).trans hbel, U', q1, fun b e => ?_, fun p hp => ?_, fun q e => ?_⟩, ⟨q2.os, q2.tape, q2.output, q2.size, fun b hb' hne => q2.keep b hb' fun hu => hne (hu.imp (fun hu => ⟨h2 b hu, hlt b hu⟩) id)⟩⟩
  · rcases q3 b e with e | e | e
    · exact h2 b e
    · have := hn b e; omega
    · omega
  · have key : ∀ g, blockOf p.1 = some g → ¬ U g → v.ownBlock ≠ some g → g < x.heap.size → WSl x p.1 p.2 → WSl w' p.1 p.2 ∧ ∀ g, blockOf p.1 = some g → ¬ U' g ∧ g < w'.heap.size := fun g e n1 n2 n3 hw => by
      refine ⟨hw.keptIf fun g' e' hg' => q2.keep g' hg' ?_, fun g' e' => ⟨fun hu => ?_, ?_⟩⟩
      · rw [e] at e'
        injection e' with e'
        subst e'
        exact fun hu => hu.elim n1 n2
      · rw [e] at e'
        injection e' with e'
        subst e'
        rcases q3 _ hu with hu | hu | hu
        · exact n1 hu
        · exact n2 hu
        · omega
      · rw [e] at e'
        injection e' with e'
        subst e'
        exact Nat.lt_of_lt_of_le n3 q2.size
    have nob : blockOf p.1 = none → WSl x p.1 p.2 → WSl w' p.1 p.2 ∧ ∀ g, blockOf p.1 = some g → ¬ U' g ∧ g < w'.heap.size := fun e hw => ⟨hw.keptIf (fun g e' _ => (by rw [e] at e'; cases e')), fun g e' => (by rw [e] at e'; cases e')⟩
    have two : blockOf p.1 = none ∨ ∃ g, blockOf p.1 = some g := by cases blockOf p.1 <;> simp
    rcases List.mem_append.1 hp with hp | hp
    · obtain ⟨a1, a2⟩ := hL2 p hp
      rcases two with hbo | ⟨g, hbo⟩
      · exact nob hbo a1
      · obtain ⟨b1, b2, b3⟩ := a2 g hbo
        exact key g hbo (fun hu => by have := hlt g hu; omega) b3 b2 a1
    · obtain ⟨a1, a2⟩ := h3 p hp
      rcases two with hbo | ⟨g, hbo⟩
      · exact nob hbo (a1.below hb)
      · obtain ⟨b1, b2⟩ := a2 g hbo
        exact key g hbo b1 (fun e => by have := hn g e; omega) (by omega) (a1.below hb)
  · obtain ⟨c1, c2⟩ := h4 q e
    have hgx : ∀ g, blockOf q.1 = some g → g < x0.heap.size := fun g eg => by
      obtain ⟨g', e', _, hh⟩ := c1
      rw [e'] at eg
      simp [blockOf] at eg
      subst eg
      exact (Array.getElem?_eq_some_iff.1 hh).1
    refine ⟨(c1.kept fun g _ hg => hb.block g hg).kept fun g eg hg => q2.keep g hg fun hu => hu.elim (c2 g eg) (fun e' => by have := hn g e'; have := hgx g eg; omega), fun g eg hu => ?_⟩
    rcases q3 g hu with hu | hu | hu
    · exact c2 g eg hu
    · have := hn g hu; have := hgx g eg; omega
    · have := hgx g eg; omega
theorem Bq.kept {w x : World} {late : Bool} {k c : Nat} {L : List (Value × List Nat)} {I : Option (Value × List Nat)} (h : Bq w late k c L I x) (hc : c ≤ 1000) :
    Calls Try.prog 10 #[.pointer (some ⟨k, 0, none⟩)] x fun e w' => e = .returned (.bool true) ∧ Below x.heap.size x w' := by
  obtain ⟨-, U, ⟨bv, raw, was, ys, vs, us, h1, h2, -⟩, -⟩ := h
  exact (kept_any h1.s (by omega)).mono fun e w' hq => ⟨hq.1, hq.2.2⟩
theorem Bq.settled {w x : World} {k c : Nat} {L : List (Value × List Nat)} {I : Option (Value × List Nat)} (h : Bq w true k c L I x) (hc : c ≤ 1000) :
    Calls Try.prog 11 #[.pointer (some ⟨k, 0, none⟩)] x fun e w' => e = .returned (.bool true) ∧ Below w.heap.size w w' := by
  obtain ⟨h0, U, ⟨bv, raw, was, ys, vs, us, h1, h2, h3⟩, h4, -⟩ := h
  obtain rfl := h3 rfl
  exact (settled_any h1 h4 (by omega)).mono fun e w' hq => ⟨hq.1, h0.trans hq.2⟩
end Go.Proofs.Ytglajdmkbckjjab
namespace Go.Proofs.Ytglajdmkbckjjab
open Go.RowKit Go.Shelf
set_option linter.unusedVariables false
set_option linter.unusedSimpArgs false
set_option maxRecDepth 20000

theorem own_blockOf {v : Value} {b : Nat} {w : World} {n : Nat} {xs : List Value} (h : w.ownsRow 0 58 1 v n xs) (e : v.ownBlock = some b) : blockOf v = some b := by
  rcases h.2 with ⟨rfl, _⟩ | ⟨g, cap, cur, rfl, _⟩
  · simp [Value.ownBlock] at e
  · simpa [Value.ownBlock, blockOf] using e
/-- words that stand beside the book are kept -/
theorem Bq.keepM {w x : World} {late : Bool} {k c : Nat} {L : List (Value × List Nat)} {v : Value} {l : List Nat} (h : Bq w late k c ((v, l) :: L) none x) (hv : x.ownsRow 0 58 1 v l.length (l.map u64V)) (hl : l.length ≤ 1024) (hc : c ≤ 4000000000000) (hvw : ∀ b, v.ownBlock = some b → w.heap.size ≤ b) (hne : ∀ p ∈ L, ∀ g, blockOf p.1 = some g → v.ownBlock ≠ some g) :
    Calls Try.prog 9 #[.pointer (some ⟨k, 0, none⟩), v] x fun e w' => e = .returned (.tuple #[]) ∧ Bq w late k (c + 1) L none w' ∧ ∀ g, g < x.heap.size → v.ownBlock ≠ some g → (∃ p ∈ L, blockOf p.1 = some g) → w'.heap[g]? = x.heap[g]? := by
  obtain ⟨h0, U, h1, h2, h3, h4⟩ := h
  obtain ⟨hw, hvU⟩ := h3 (v, l) List.mem_cons_self
  refine (keepAny h1 hv hw (by omega) hc fun b e hu => (hvU b (own_blockOf hv e)).1 hu).mono ?_
  rintro e w' ⟨rfl, U', q1, q2, q3⟩
  have hws := h0.size
  have hbel : Below w.heap.size x w' := q2.below (by omega) fun b e => by
    rcases e with e | e
    · exact h2 b e
    · exact hvw b e
  refine ⟨rfl, ⟨h0.trans hbel, U', q1, fun b e => ?_, fun p hp => ?_, fun q e => by cases e⟩, fun g hg n1 hp => ?_⟩
  · rcases q3 b e with e | e | e
    · exact h2 b e
    · exact hvw b e
    · omega
  · obtain ⟨a1, a2⟩ := h3 p (List.mem_cons_of_mem _ hp)
    refine ⟨a1.keptIf fun g e hg => q2.keep g hg fun hu => hu.elim (a2 g e).1 (hne p hp g e), fun g e => ⟨fun hu => ?_, Nat.lt_of_lt_of_le (a2 g e).2 q2.size⟩⟩
    rcases q3 g hu with hu | hu | hu
    · exact (a2 g e).1 hu
    · exact hne p hp g e hu
    · have := (a2 g e).2; omega
  · obtain ⟨p, hp, e⟩ := hp
    exact q2.keep g hg fun hu => hu.elim ((h3 p (List.mem_cons_of_mem _ hp)).2 g e).1 n1
theorem BkB.new2 {w : World} (late : Bool) : BkB late (w.alloc (.cells #[.slice none 0 0, .bool late, .slice none 0 0, .slice none 0 0] 29)) w.heap.size (fun b => b = w.heap.size) 0 := by
  refine ⟨.slice none 0 0, .slice none 0 0, .slice none 0 0, [], [], [], ⟨⟨Go.heap_alloc_new _ _, ⟨rfl, .inl ⟨rfl, rfl⟩⟩, ⟨rfl, .inl ⟨rfl, rfl⟩⟩, ⟨rfl, .inl ⟨rfl, rfl⟩⟩, rfl, fun j u v h => by simp at h, fun j v h => by simp at h⟩, rfl, rfl, fun b e => by simp [Value.ownBlock] at e, ?_, fun b e => by rw [World.size_alloc]; omega, fun b e => by simp [Value.ownBlock] at e, fun b e => by simp [Value.ownBlock] at e, fun b e => by simp [Value.ownBlock] at e, fun x hx => by simp at hx, fun _ x hx => by simp at hx, fun _ i j x y hx => by simp at hx, fun _ x hx => by simp at hx⟩, by simp, fun _ => rfl⟩
  rintro b (e | e | ⟨x, hx, e⟩)
  · simp [Value.ownBlock] at e
  · simp [Value.ownBlock] at e
  · simp at hx
theorem sameW2 {w : World} {v1 v2 : Value} {l : List Nat} (h1 : WSl w v1 l) (h2 : WSl w v2 l) :
    Calls Try.prog 8 #[v1, v2] w fun e w' => e = .returned (.bool true) ∧ Below w.heap.size w w' := (sameWords_any h1 h2).mono fun e w' h => ⟨h.1.trans (by simp), h.2.2⟩
theorem blk_lt {w : World} {v : Value} {n b : Nat} {xs : List Value} (h : w.ownsRow 0 58 1 v n xs) (e : v.ownBlock = some b) : b < w.heap.size := (h.lt b e).2
theorem own_bel {w x : World} {v : Value} {n : Nat} {xs : List Value} (h : w.ownsRow 0 58 1 v n xs) (hb : Below w.heap.size w x) : x.ownsRow 0 58 1 v n xs := rowKept h fun g e => hb.block g (h.lt g e).2
end Go.Proofs.Ytglajdmkbckjjab
namespace Go.Proofs.Ytglajdmkbckjjab
open Go.RowKit Go.Shelf
set_option linter.unusedVariables false
set_option linter.unusedSimpArgs false
set_option maxRecDepth 20000

theorem Bq.start (w0 : World) (late : Bool) : Bq w0 late w0.heap.size 0 [] none (w0.alloc (.cells #[.slice none 0 0, .bool late, .slice none 0 0, .slice none 0 0] 29)) :=
  ⟨(Below.refl _ _).alloc (Nat.le_refl _) _, _, BkB.new2 late, (fun b e => Nat.le_of_eq e.symm), (fun p hp => by cases hp), (fun q e => by cases e)⟩
theorem Bq.withI {w0 x y : World} {late : Bool} {k c : Nat} {L : List (Value × List Nat)} {v : Value} {l : List Nat} (h : Bq w0 late k c L none x) (hb : Below x.heap.size x y) (hv : Bo x.heap.size y v l) : Bq w0 late k c L (some (v, l)) y := by
  obtain ⟨h0, U, h1, h2, h3, h4⟩ := h
  refine ⟨h0.trans (hb.mono h0.size), U, h1.below hb, h2, h3.below hb, fun q e => ?_⟩
  cases e
  obtain ⟨g, rfl, hg, hh⟩ := hv
  refine ⟨⟨g, rfl, Nat.zero_le _, hh⟩, fun g' e hu => ?_⟩
  simp [blockOf] at e
  subst e
  have := h1.lt _ hu
  omega
theorem Bq.bo {w0 x : World} {late : Bool} {k c : Nat} {L : List (Value × List Nat)} {v : Value} {l : List Nat} (h : Bq w0 late k c L (some (v, l)) x) : Bo 0 x v l := by
  obtain ⟨_, U, _, _, _, h4⟩ := h
  exact (h4 _ rfl).1
theorem Bq.at {w0 x : World} {late : Bool} {k c : Nat} {L : List (Value × List Nat)} {I : Option (Value × List Nat)} {v : Value} {l : List Nat} (h : Bq w0 late k c L I x) (hm : (v, l) ∈ L) : WSl x v l := by
  obtain ⟨_, U, _, _, h3, _⟩ := h
  exact (h3 _ hm).1
theorem Bq.blt {w0 x : World} {late : Bool} {k c : Nat} {L : List (Value × List Nat)} {I : Option (Value × List Nat)} (h : Bq w0 late k c L I x) {p : Value × List Nat} (hm : p ∈ L) : ∀ g, blockOf p.1 = some g → g < x.heap.size := by
  obtain ⟨_, U, _, _, h3, _⟩ := h
  exact fun g e => ((h3 _ hm).2 g e).2
theorem Bq.again {w0 x : World} {late late' : Bool} {k c : Nat} {L : List (Value × List Nat)} {I : Option (Value × List Nat)} (h : Bq w0 late k c L I x) : Bq w0 late' x.heap.size 0 L none (x.alloc (.cells #[.slice none 0 0, .bool late', .slice none 0 0, .slice none 0 0] 29)) := by
  obtain ⟨h0, U, h1, h2, h3, h4⟩ := h
  have hb : Below x.heap.size x (x.alloc (.cells #[.slice none 0 0, .bool late', .slice none 0 0, .slice none 0 0] 29)) := (Below.refl _ _).alloc (Nat.le_refl _) _
  refine ⟨h0.trans (hb.mono h0.size), _, BkB.new2 late', fun b e => by rw [e]; exact h0.size, fun p hp => ⟨(h3 p hp).1.below hb, fun g e => ⟨fun hu => ?_, Nat.lt_of_lt_of_le ((h3 p hp).2 g e).2 hb.size⟩⟩, fun q e => by cases e⟩
  have := ((h3 p hp).2 g e).2
  omega
/-- a struct's box, read in any world that keeps it -/
def Box (w : World) (b : Nat) (n m : Int) (cv hv : Value) : Prop := w.cell? ⟨b, 0, none⟩ = some (.int .i64 n) ∧ w.cell? ⟨b, 1, none⟩ = some (.int .i64 m) ∧ w.cell? ⟨b, 4, none⟩ = some cv ∧ w.cell? ⟨b, 5, none⟩ = some hv
set_option maxHeartbeats 2000000 in
theorem reads_law {w : World} {wv ov cv hv : Value} {c h : List Nat} (n m : Int) (hc : CSl w cv c) (hlc : c.length ≤ 140737488351232) (hh : CSl w hv h) (hlh : h.length ≤ 140737488351232) :
    Calls Try.prog 3 #[.agg #[.int .i64 n, .int .i64 m, wv, ov, cv, hv]] w fun e w' => e = .returned (.bool true) ∧ Below w.heap.size w w' := by
  obtain ⟨w0, hw0⟩ : ∃ w0, w.alloc (.cells #[.int .i64 n, .int .i64 m, wv, ov, cv, hv] 25) = w0 := ⟨_, rfl⟩
  have hbw : Below w.heap.size w w0 := by rw [← hw0]; exact (Below.refl _ _).alloc (Nat.le_refl _) _
  have hrow : w0.heap[w.heap.size]? = some (.cells #[.int .i64 n, .int .i64 m, wv, ov, cv, hv] 25 (0, 0)) := by rw [← hw0]; exact Go.heap_alloc_new w _
  have hsz : w0.heap.size = w.heap.size + 1 := by rw [← hw0]; exact World.size_alloc ..
  have HX : Hid (∀ x, Below w0.heap.size w0 x → Box x w.heap.size n m cv hv) := hide fun x hx => by
    have hr := (hx.block w.heap.size (by omega)).trans hrow
    exact ⟨by rw [cell_of_row _ _ _ _ _ _ hr]; rfl, by rw [cell_of_row _ _ _ _ _ _ hr]; rfl, by rw [cell_of_row _ _ _ _ _ _ hr]; rfl, by rw [cell_of_row _ _ _ _ _ _ hr]; rfl⟩
  have HC : Hid (∀ x, Below w0.heap.size w0 x → CSl x cv c) := hide fun x hx => hc.blk (hbw.trans (hx.mono hbw.size))
  have HH : Hid (∀ x, Below w0.heap.size w0 x → CSl x hv h) := hide fun x hx => hh.blk (hbw.trans (hx.mono hbw.size))
  have HLC := hide hlc
  have HLH := hide hlh
  have HBW : Hid (∀ x, Below w0.heap.size w0 x → Below w.heap.size w x) := hide fun x hx => hbw.trans (hx.mono hbw.size)
  have HQ0 := hide (Bq.start w0 false)
  obtain ⟨q1, hq1⟩ : ∃ q, dAn n c = q := ⟨_, rfl⟩
  obtain ⟨q2, hq2⟩ : ∃ q, dAn m h = q := ⟨_, rfl⟩
  have HP1 : Hid (∀ x v, CSl x v c → Calls Try.prog 5 #[.int .i64 n, v] x (PAns x q1)) := hide fun x v hx => by rw [← hq1]; exact decode_all n hx hlc
  have HP2 : Hid (∀ x v, CSl x v h → Calls Try.prog 5 #[.int .i64 m, v] x (PAns x q2)) := hide fun x v hx => by rw [← hq2]; exact decode_all m hx hlh
  have HD1 : Hid (∀ x, Below w0.heap.size w0 x → Calls Try.prog 6 #[.int .i64 n, cv] x (DAns x q1)) := hide fun x hx => by rw [← hq1]; exact rdecode_all n (HC.out x hx) hlc
  have HD2 : Hid (∀ x, Below w0.heap.size w0 x → Calls Try.prog 6 #[.int .i64 m, hv] x (DAns x q2)) := hide fun x hx => by rw [← hq2]; exact rdecode_all m (HH.out x hx) hlh
  have HL1 : Hid (q1.1.length ≤ 1024) := hide (by rw [← hq1]; exact dAn_len _ _)
  have HL2 : Hid (q2.1.length ≤ 1024) := hide (by rw [← hq2]; exact dAn_len _ _)
  have HBY1 : Hid (∀ x, Below w0.heap.size w0 x → Calls Try.prog 4 #[cv] x fun e w' => ∃ g k, e = .returned (.slice (some ⟨g, 0, none⟩) c.length k) ∧ Bo x.heap.size w' (.slice (some ⟨g, 0, none⟩) c.length k) c ∧ CSl w' (.slice (some ⟨g, 0, none⟩) c.length k) c ∧ Below x.heap.size x w') := hide fun x hx => (bytesOf_any (HC.out x hx) hlc).mono fun e w' h => by
    obtain ⟨v', rfl, h1, h2⟩ := h
    have h3 := h1.cslZ hlc hc.lt
    obtain ⟨g, rfl, h1⟩ := h1
    exact ⟨g, _, rfl, ⟨g, rfl, h1⟩, h3, h2⟩
  have HBY2 : Hid (∀ x, Below w0.heap.size w0 x → Calls Try.prog 4 #[hv] x fun e w' => ∃ g k, e = .returned (.slice (some ⟨g, 0, none⟩) h.length k) ∧ CSl w' (.slice (some ⟨g, 0, none⟩) h.length k) h ∧ Below x.heap.size x w') := hide fun x hx => (bytesOf_any (HH.out x hx) hlh).mono fun e w' h => by
    obtain ⟨v', rfl, h1, h2⟩ := h
    have h3 := h1.cslZ hlh hh.lt
    obtain ⟨g, rfl, h1⟩ := h1
    exact ⟨g, _, rfl, h3, h2⟩
  have HUN : Hid (∀ x v, Below w0.heap.size w0 x → Bo 0 x v c → Calls Try.prog 7 #[v, cv] x fun e w' => e = .returned (.bool true) ∧ Below x.heap.size x w') := hide fun x v hx hb => untouched_any hb (HC.out x hx) hlc
  obtain ⟨ca, ccap, rfl, -⟩ := hc
  obtain ⟨ha, hcap, rfl, -⟩ := hh
  clear hlc hlh hq1 hq2 hbw
  obtain ⟨l1, p1, r1⟩ := q1
  obtain ⟨l2, p2, r2⟩ := q2
  unfold PAns at HP1 HP2
  unfold DAns at HD1 HD2
  dsimp only at HP1 HP2 HD1 HD2 HL1 HL2
  obtain ⟨b0, b1, b4, b5⟩ := HX.out _ HQ0.out.bel
  rw [hsz] at HQ0
  clear hrow
  go_enter Try.func3, Try.ntmps3
  go_wp2_with (first
    | (go_at_call 4; refine (HBY1.out _ HQ0.out.bel).mono ?_; rintro e w1 ⟨gi, ki, rfl, hbo, hcs, hb⟩; have HQ1 := hide (HQ0.out.withI hb hbo); have HI1 := hide (HP1.out _ _ hcs); obtain ⟨c0, c1, c4, c5⟩ := HX.out _ HQ1.out.bel; clear hbo hcs hb HQ0 b0 b1 b4 b5)
    | (go_at_call 5; refine HI1.out.mono ?_; clear HI1; rintro e w2 ⟨av, rfl, ho, hs, hb, hn⟩; have HA2 := hide (And.intro ho (And.intro hs (And.intro hb hn))); have HQ2 := hide (HQ1.out.below hb); obtain ⟨d0, d1, d4, d5⟩ := HX.out _ HQ2.out.bel; have HR1 := hide (HD1.out _ HQ2.out.bel); clear ho hs hb hn c0 c1 c4 c5)
    | (go_at_call 6; refine HR1.out.mono ?_; clear HR1; rintro e w3 ⟨bv, rfl, hs, hb, hn⟩; have HB3 := hide (And.intro hs (And.intro hb hn)); have HQ3 := hide (HQ2.out.below hb); obtain ⟨e0, e1, e4, e5⟩ := HX.out _ HQ3.out.bel; have HU1 := hide (HUN.out _ _ HQ3.out.bel HQ3.out.bo); clear hs hb hn d0 d1 d4 d5 HQ2)
    | (go_at_call 7; refine HU1.out.mono ?_; clear HU1; rintro e w4 ⟨rfl, hb⟩; have HW24 := hide (HB3.out.2.1.trans (hb.mono HB3.out.2.1.size)); have HS1 := hide (sameW2 (HA2.out.2.1.below HW24.out) (HB3.out.1.below hb)); have HW34 := hide hb; clear hb e0 e1 e4 e5)
    | (go_at_call 8; refine HS1.out.mono ?_; clear HS1; rintro e w5 ⟨rfl, hb⟩; have HW25 := hide (HW24.out.trans (hb.mono HW24.out.size)); have HW35 := hide (HW34.out.trans (hb.mono HW34.out.size)); have HK1 := hide (HQ1.out.keep (HA2.out.2.2.1.trans (HW25.out.mono HA2.out.2.2.1.size)) (own_bel HA2.out.1 HW25.out) (HA2.out.2.1.below HW25.out) HL1.out (by omega) HA2.out.2.2.2 [(bv, l1)] (fun p hp => by obtain rfl := List.mem_singleton.1 hp; exact ⟨HB3.out.1.below HW35.out, fun g e => ⟨Nat.le_trans HA2.out.2.2.1.size (HB3.out.2.2 g e).1, Nat.lt_of_lt_of_le (HB3.out.2.2 g e).2 HW35.out.size, fun e' => by have := blk_lt HA2.out.1 e'; have := (HB3.out.2.2 g e).1; omega⟩⟩)); clear hb HW24 HW34 HW25 HW35 HQ3 HQ1)
    | (go_at_call 9; refine HK1.out.mono ?_; clear HK1; rintro e w6 ⟨rfl, hq, -⟩; have HQ6 := hide hq; obtain ⟨f0, f1, f4, f5⟩ := HX.out _ hq.bel; clear hq HA2 HB3))
  have HQ6d := hide (HQ6.out.below (Below.refl _ _).drew)
  clear HQ6
  go_region_held3 (fun w' => w'.cell? ⟨w.heap.size, 1, none⟩ = some (.int .i64 m) ∧ w'.cell? ⟨w.heap.size, 5, none⟩ = some (.slice ha h.length hcap)) (first | assumption | (constructor <;> assumption) | go_keep)
    (first
      | (go_at_call 4; refine (HBY2.out _ HQ6d.out.bel).mono ?_; rintro e w7 ⟨gj, kj, rfl, hcs, hb⟩; have HQ7 := hide (HQ6d.out.below hb); have HI2 := hide (HP2.out _ _ hcs); obtain ⟨g0, g1, g4, g5⟩ := HX.out _ HQ7.out.bel; clear hcs hb HQ6d f0 f1 f4 f5)
      | (go_at_call 5; refine HI2.out.mono ?_; clear HI2; rintro e w8 ⟨dv, rfl, ho, hs, hb, hn⟩; have HA8 := hide (And.intro ho (And.intro hs (And.intro hb hn))); have HQ8 := hide (HQ7.out.below hb); obtain ⟨h0, h1, h4, h5⟩ := HX.out _ HQ8.out.bel; have HR2 := hide (HD2.out _ HQ8.out.bel); clear ho hs hb hn g0 g1 g4 g5))
  go_wp2_with (first
    | (go_at_call 6; refine HR2.out.mono ?_; clear HR2; rintro e w9 ⟨ev, rfl, hs, hb, hn⟩; have HB9 := hide (And.intro hs (And.intro hb hn)); have HQ9 := hide (HQ8.out.below hb); have HT1 := hide (HQ9.out.kept (by omega)); clear hs hb hn h0 h1 h4 h5 HQ8)
    | (go_at_call 10; refine HT1.out.mono ?_; clear HT1; rintro e w10 ⟨rfl, hb⟩; have HW810 := hide (HB9.out.2.1.trans (hb.mono HB9.out.2.1.size)); have HW910 := hide hb; have HS2 := hide (sameW2 (HA8.out.2.1.below HW810.out) (HB9.out.1.below hb)); clear hb)
    | (go_at_call 8; refine HS2.out.mono ?_; clear HS2; rintro e w11 ⟨rfl, hb⟩; have HW811 := hide (HW810.out.trans (hb.mono HW810.out.size)); have HW911 := hide (HW910.out.trans (hb.mono HW910.out.size)); have HK2 := hide (HQ7.out.keep (HA8.out.2.2.1.trans (HW811.out.mono HA8.out.2.2.1.size)) (own_bel HA8.out.1 HW811.out) (HA8.out.2.1.below HW811.out) HL2.out (by omega) HA8.out.2.2.2 [(ev, l2)] (fun p hp => by obtain rfl := List.mem_singleton.1 hp; exact ⟨HB9.out.1.below HW911.out, fun g e => ⟨Nat.le_trans HA8.out.2.2.1.size (HB9.out.2.2 g e).1, Nat.lt_of_lt_of_le (HB9.out.2.2 g e).2 HW911.out.size, fun e' => by have := blk_lt HA8.out.1 e'; have := (HB9.out.2.2 g e).1; omega⟩⟩)); clear hb HW810 HW910 HW811 HW911 HQ9 HQ7)
    | (go_at_call 9; refine HK2.out.mono ?_; clear HK2; rintro e w12 ⟨rfl, hq, -⟩; have HQ12 := hide hq; obtain ⟨f0, f1, f4, f5⟩ := HX.out _ hq.bel; have HI3 := hide (HP1.out _ _ (hq.bo.cslZ HLC.out (HC.out _ hq.bel).lt)); clear hq HA8 HB9)
    | (go_at_call 5; refine HI3.out.mono ?_; clear HI3; rintro e w13 ⟨av3, rfl, ho, hs, hb, hn⟩; have HA13 := hide hs; have HQ13 := hide (HQ12.out.below hb); have HT2 := hide (HQ13.out.kept (by omega)); clear ho hs hb hn f0 f1 f4 f5 HQ12)
    | (go_at_call 10; refine HT2.out.mono ?_; clear HT2; rintro e w14 ⟨rfl, hb⟩; have HQ14 := hide (HQ13.out.below hb); have HS3 := hide (sameW2 (HA13.out.below hb) (HQ14.out.at (v := bv) (l := l1) (by simp))); clear hb HA13 HQ13)
    | (go_at_call 8; refine HS3.out.mono ?_; clear HS3; rintro e w15 ⟨rfl, hb⟩; have HQ15 := hide (HQ14.out.below hb); have HQ16 := hide (HQ15.out.again (late' := true)); clear hb HQ14))
  obtain ⟨k2, hk2⟩ : ∃ k2, w15.heap.size = k2 := ⟨_, rfl⟩
  rw [hk2] at HQ16 ⊢
  clear HQ15 hk2
  generalize w15.alloc (.cells #[.slice none 0 0, .bool true, .slice none 0 0, .slice none 0 0] 29) = w16 at *
  go_loopw [18] (fun y wr => ∃ r : Nat, r ≤ 3 ∧ y = .int .i64 (r : Int) ∧ Hid (Bq w0 true k2 (2 * r) [(ev, l2), (bv, l1)] none wr)) (fun y _ => 3 - (intOf y).toNat)
  case atStart => exact ⟨0, by omega, rfl, hide HQ16.out⟩
  case round =>
    clear HQ16
    obtain ⟨r, hr3, rfl, HQ⟩ := hrel
    by_cases hlt : r < 3
    · have HQd := hide (HQ.out.below (Below.refl _ _).drew)
      obtain ⟨f0, f1, f4, f5⟩ := HX.out _ HQ.out.bel
      clear HQ
      go_wp2_with fail
      go_region_held3 (fun w' => w'.cell? ⟨w.heap.size, 0, none⟩ = some (.int .i64 n) ∧ w'.cell? ⟨w.heap.size, 4, none⟩ = some (.slice ca c.length ccap)) (first | assumption | (constructor <;> assumption) | go_keep)
        (first
          | (go_at_call 4; refine (HBY1.out _ HQd.out.bel).mono ?_; rintro e y1 ⟨gj, kj, rfl, -, hcs, hb⟩; have HY1 := hide (HQd.out.below hb); have HI2 := hide (HP1.out _ _ hcs); obtain ⟨g0, g1, g4, g5⟩ := HX.out _ HY1.out.bel; clear hcs hb HQd f0 f1 f4 f5)
          | (go_at_call 5; refine HI2.out.mono ?_; clear HI2; rintro e y2 ⟨kv, rfl, ho, hs, hb, hn⟩; have HA2 := hide (And.intro ho (And.intro hs (And.intro hb hn))); have HY2 := hide (HY1.out.below hb); obtain ⟨h0, h1, h4, h5⟩ := HX.out _ HY2.out.bel; clear ho hs hb hn g0 g1 g4 g5))
      have HY2d := hide (HY2.out.below (Below.refl _ _).drew)
      clear HY2
      go_wp2_with fail
      go_region_held3 (fun w' => w'.cell? ⟨w.heap.size, 1, none⟩ = some (.int .i64 m) ∧ w'.cell? ⟨w.heap.size, 5, none⟩ = some (.slice ha h.length hcap)) (first | assumption | (constructor <;> assumption) | go_keep)
        (first
          | (go_at_call 4; refine (HBY2.out _ HY2d.out.bel).mono ?_; rintro e y3 ⟨gl, kl, rfl, hcs, hb⟩; have HB23 : Hid (Below y2.heap.size y2 y3) := hide ((Below.refl y2.heap.size y2).drew.trans hb); have HY3 := hide (HY2d.out.below hb); have HI4 := hide (HP2.out _ _ hcs); obtain ⟨g0, g1, g4, g5⟩ := HX.out _ HY3.out.bel; clear hcs hb HY2d h0 h1 h4 h5)
          | (go_at_call 5; refine HI4.out.mono ?_; clear HI4; rintro e y4 ⟨lv, rfl, ho, hs, hb, hn⟩; have HA4 := hide (And.intro ho (And.intro hs (And.intro hb hn))); have HY4 := hide (HY3.out.below hb); obtain ⟨j0, j1, j4, j5⟩ := HX.out _ HY4.out.bel; have HB24 := hide (HB23.out.trans (hb.mono HB23.out.size)); have HS5 := hide (sameW2 (HA2.out.2.1.below HB24.out) (HY4.out.at (v := bv) (l := l1) (by simp))); clear ho hs hb hn g0 g1 g4 g5 HY3))
      clear j0 j1 j4 j5
      go_wp2_with (first
        | (go_at_call 8; refine HS5.out.mono ?_; clear HS5; rintro e y5 ⟨rfl, hb⟩; have HY5 := hide (HY4.out.below hb); have HB45 := hide hb; have HS6 := hide (sameW2 (HA4.out.2.1.below hb) (HY5.out.at (v := ev) (l := l2) (by simp))); clear hb HY4)
        | (go_at_call 8; refine HS6.out.mono ?_; clear HS6; rintro e y6 ⟨rfl, hb⟩; have HB46 := hide (HB45.out.trans (hb.mono HB45.out.size)); have HB26 := hide (HB24.out.trans (HB46.out.mono HB24.out.size)); have HK1 := hide (HY1.out.keep (HA2.out.2.2.1.trans (HB26.out.mono HA2.out.2.2.1.size)) (own_bel HA2.out.1 HB26.out) (HA2.out.2.1.below HB26.out) HL1.out (by omega) HA2.out.2.2.2 [(lv, l2)] (fun p hp => by obtain rfl := List.mem_singleton.1 hp; exact ⟨HA4.out.2.1.below HB46.out, fun g e => by have e2 := blockOf_own e; have q1 := HA4.out.2.2.2 g e2; have q2 := blk_lt HA4.out.1 e2; have q3 := HB23.out.size; have q4 := HA2.out.2.2.1.size; have q5 := HB46.out.size; exact ⟨by omega, by omega, fun e' => by have := blk_lt HA2.out.1 e'; omega⟩⟩)); clear hb HY5 HB45)
        | (go_at_call 9; refine HK1.out.mono ?_; clear HK1; rintro e y7 ⟨rfl, hq, hch⟩; have HK2 := hide (Bq.keepM hq (rowKept (own_bel HA4.out.1 HB46.out) (fun g e => hch.keep g (by have := blk_lt HA4.out.1 e; have := HB46.out.size; omega) (fun hu => by have q1 := HA4.out.2.2.2 g e; have q3 := HB23.out.size; have q4 := HA2.out.2.2.1.size; exact hu.elim (fun hu => by omega) (fun hu => by have := blk_lt HA2.out.1 hu; omega)))) HL2.out (by omega) (fun b e => by have q1 := HA4.out.2.2.2 b e; have q3 := HB23.out.size; have q4 := HA2.out.2.2.1.size; have q5 := HY1.out.bel.size; omega) (fun p hp g e e' => by have q0 := HY1.out.blt hp g e; have q1 := HA4.out.2.2.2 g e'; have q3 := HB23.out.size; have q4 := HA2.out.2.2.1.size; omega)); clear hq hch)
        | (go_at_call 9; refine HK2.out.mono ?_; clear HK2; rintro e y8 ⟨rfl, hq, -⟩; have HQ8 := hide hq; clear hq))
      go_roundw
      case rel => exact ⟨r + 1, by omega, by go_num, hide HQ8.out⟩
      case measure => simp [intOf]; omega
    · have er : r = 3 := by omega
      subst er
      have HT := hide (HQ.out.settled (by omega))
      clear HQ hlt
      go_wp2_with (go_at_call 11; refine HT.out.mono ?_; clear HT; rintro e y9 ⟨rfl, hb⟩; have HB9 := hide (HBW.out _ hb); clear hb)
      go_ret
      exact ⟨rfl, HB9.out⟩
end Go.Proofs.Ytglajdmkbckjjab
namespace Go.Proofs.Ytglajdmkbckjjab
open Go.ChangeShapes Go.WideShapes Go.ChangeAt Go.RowKit
set_option linter.unusedVariables false
set_option linter.unusedSimpArgs false
set_option maxRecDepth 20000

theorem own : ownKnob Try.prog.godebug = none := by kernel_rfl
theorem laidOut : laidOutB Try.prog = true := by kernel_rfl
theorem cellsInt : Try.prog.cellsOf 3 = 1 := by kernel_rfl
theorem cellsWords : Try.prog.cellsOf 22 = 1 := by kernel_rfl
theorem cellsBytes : Try.prog.cellsOf 23 = 1 := by kernel_rfl
theorem cellsTwo : Try.prog.cellsOf 25 = 6 := by kernel_rfl
def IsRow (k : IntKind) (w : World) (a : Option Addr) (len cap : Nat) (zs : List Int) : Prop :=
  (a = none ∧ len = 0 ∧ cap = 0 ∧ zs = []) ∨
  ∃ x, a = some x ∧ len ≤ cap ∧ cap ≤ maxLen ∧ zs.length = cap ∧ (∀ i, i < zs.length → w.cell? (x.add i) = some (.int k (zs.getD i 0))) ∧ ∀ n ∈ zs, (Lit.int k n).wf = true
theorem trod_place_lt {H : Type} {enc : TypeId × Value → H} {W : World} {t : TypeId} {v : Value} {d : DataW H} {p : List MemPlace} (h1 : DataW.Trod enc Try.prog W 0 (fun _ => true) true t v d p) : ∀ x ∈ p, x.block < W.heap.size := by
  obtain ⟨m, hm⟩ := h1; exact DataW.trod_lt m _ _ _ hm
theorem bytesU8 : Try.prog.bytesOf 5 = 1 := by kernel_rfl
/-- bytes that came in: nil has no room -/
def CTl (w : World) (v : Value) (l : List Nat) : Prop := CSl w v l ∧ ∀ n cap, v = .slice none n cap → cap = 0
theorem csl_of_isrow {w : World} {a : Option Addr} {len cap : Nat} {zs : List Int} (h : IsRow .u8 w a len cap zs) : ∃ l : List Nat, l.length = len ∧ CSl w (.slice a len cap) l := by
  rcases h with ⟨rfl, rfl, rfl, rfl⟩ | ⟨x, rfl, hl, hm, hz, hcell, hwz⟩
  · exact ⟨[], rfl, none, 0, rfl, Nat.le_refl _, by unfold maxLen; omega, by simp, by simp⟩
  · have hlen : ((zs.take len).map Int.toNat).length = len := by simp; omega
    refine ⟨(zs.take len).map Int.toNat, hlen, _, cap, by rw [hlen], by omega, hm, ?_, ?_⟩
    · intro b hb
      obtain ⟨n, hn, rfl⟩ := List.mem_map.1 hb
      have := bounds_u8 (hwz n (List.mem_of_mem_take hn))
      omega
    · intro hp
      obtain ⟨b, off, rfl, hc⟩ := ints_at hcell (by omega)
      refine ⟨b, off, rfl, fun i hi => ?_⟩
      rw [hc i (by omega)]
      have hi' : i < zs.length := by omega
      have hb := bounds_u8 (hwz zs[i] (List.getElem_mem hi'))
      have hi2 : i < len := by omega
      have e2 : ((zs.take len).map Int.toNat).getD i 0 = zs[i].toNat := by
        simp [List.getD, hi', hi2]
      have e3 : zs.getD i 0 = zs[i] := by simp [List.getD, hi']
      rw [e2, e3, Int.toNat_of_nonneg hb.1]
theorem open_fieldB {H : Type} {enc : TypeId × Value → H} {W : World} {n : Nat} {v : Value} {y : DataW H × List MemPlace} (h : DataW.trod enc Try.prog W 0 (fun _ => true) true n 23 [v] = some y) (hw : ∀ k ∈ y.1.weights Try.prog 23, k ≤ reachBytes) : ∃ l : List Nat, CTl W v l ∧ l.length ≤ 140737488351232 := by
  rcases open_ints Try.underlying23 Try.underlying5 (by kernel_rfl) h with ⟨hcs, hy⟩ | ⟨x, len, cap, zs, hcs, _, hl, hm, hz, hx, hcell, hwz⟩
  · simp at hcs
    subst hcs
    exact ⟨[], ⟨⟨none, 0, rfl, Nat.le_refl _, by unfold maxLen; omega, by simp, by simp⟩, fun n cap e => by injection e with _ _ e3; exact e3.symm⟩, Nat.zero_le _⟩
  · simp at hcs
    subst hcs
    simp only [if_true] at hz
    obtain ⟨l, hll, hb⟩ := csl_of_isrow (.inr ⟨_, rfl, hl, hm, hz, hcell, hwz⟩)
    subst hx
    refine ⟨l, ⟨hb, fun n cap e => by injection e with e1; cases e1⟩, ?_⟩
    have := hw ((zs.length) * 1) (by
      simp only [DataW.weights]
      rw [Try.underlying23]
      simp only [lits, List.length_map, List.length_take, List.length_drop, bytesU8]
      rw [show min len zs.length + (zs.length - len) = zs.length by omega]
      exact List.mem_cons_self)
    unfold reachBytes at this
    omega
theorem six {cs : Array Value} (h : cs.size = 6) : ∃ v0 v1 v2 v3 v4 v5, cs = #[v0, v1, v2, v3, v4, v5] := by
  obtain ⟨l⟩ := cs
  match l, h with
  | [v0, v1, v2, v3, v4, v5], _ => exact ⟨v0, v1, v2, v3, v4, v5, rfl⟩
theorem open_two {H : Type} {enc : TypeId × Value → H} {W : World} {base : Nat} {v : Value} {d : DataW H} {p : List MemPlace} {ts : List TypeId} {ds : List (DataW H)} (j : Nat) (hts : ts[j]? = some 25) (hds : ds[j]? = some d)
    (hsz : (DataW.weightsEach Try.prog ts ds).all (· ≤ reachBytes) = true) (hok : Value.okWide Try.prog W .any base 25 v) (h1 : DataW.Trod enc Try.prog W 0 (fun _ => true) true 25 v d p) :
    ∃ (n m : Int) (wv ov cv hv : Value) (c h : List Nat), v = .agg #[.int .i64 n, .int .i64 m, wv, ov, cv, hv] ∧ CSl W cv c ∧ c.length ≤ 140737488351232 ∧ CSl W hv h ∧ h.length ≤ 140737488351232 := by
  obtain ⟨cs, rfl, hcs⟩ := okWide_struct Try.underlying25 hok
  obtain ⟨v0, v1, v2, v3, v4, v5, rfl⟩ := six (hcs.trans cellsTwo)
  obtain ⟨fuel, hf⟩ := h1
  obtain ⟨xs, k, hk, hxy, hl, hxl, hfd⟩ := DataW.trod_struct Try.underlying25 hf
  match xs, hxl with
  | [y0, y1, y2, y3, y4, y5], _ =>
    have g0 := hfd 0 _ rfl
    have g1 := hfd 1 _ rfl
    have g4 := hfd 4 _ rfl
    have g5 := hfd 5 _ rfl
    simp [cellsInt, cellsWords, cellsBytes, Value.cells] at g0 g1 g4 g5
    obtain ⟨z0, hz0, _, wf0⟩ := DataW.trod_int Try.underlying3 g0
    obtain ⟨z1, hz1, _, wf1⟩ := DataW.trod_int Try.underlying3 g1
    simp at hz0 hz1
    subst hz0 hz1
    simp only [Prod.mk.injEq] at hxy
    obtain ⟨l4, b4, n4⟩ := open_fieldB g4 (fun k hk => by
      have h0 := List.all_eq_true.1 hsz k (DataW.weights_mem_each hts hds k (by
        rw [hxy.1]
        simp only [DataW.weights]
        rw [Try.underlying25]
        exact DataW.weights_mem_each (j := 4) rfl rfl k hk))
      simpa using h0)
    obtain ⟨l5, b5, n5⟩ := open_fieldB g5 (fun k hk => by
      have h0 := List.all_eq_true.1 hsz k (DataW.weights_mem_each hts hds k (by
        rw [hxy.1]
        simp only [DataW.weights]
        rw [Try.underlying25]
        exact DataW.weights_mem_each (j := 5) rfl rfl k hk))
      simpa using h0)
    exact ⟨z0, z1, v2, v3, v4, v5, l4, l5, rfl, b4.1, n4, b5.1, n5⟩
theorem two_again {H : Type} {enc : TypeId × Value → H} {W W' : World} {v : Value} {d : DataW H} {p : List MemPlace} (h1 : DataW.Trod enc Try.prog W 0 (fun _ => true) true 25 v d p) (bel : Below W.heap.size W W') :
    DataW.Trod enc Try.prog W' 0 (fun b => decide (b < W.heap.size)) true 25 v d p := Below.trod laidOut (by kernel_rfl) (of_decide_eq_true (by kernel_rfl)) h1 bel (trod_place_lt h1)
end Go.Proofs.Ytglajdmkbckjjab
