import Derived.Test.YtepgiomgkgfioaaDoorDFlush
import Derived.Test.YtepgiomgkgfioaaDoorDFn
import Derived.Carry
import Derived.Test.YtepgiomgkgfioaaDoorMtCho2
import Derived.Test.YtepgiomgkgfioaaDoorMtConv
import Derived.Test.YtepgiomgkgfioaaDoorMtLaw0
import Derived.Test.YtepgiomgkgfioaaDoorDRead2
import Derived.Deep.DeepAppendWide
import Derived.StillTailTactics
import Derived.Test.YtepgiomgkgfioaaDoorShaMac
import Derived.Test.YtepgiomgkgfioaaDoorCards
import Derived.Test.YtepgiomgkgfioaaDoorTie
import Derived.WalkKit
import Derived.ProofKit
import Derived.OpenShut
import Derived.ChangeOld
import Derived.Deep.DeepHandedRow
import Derived.Lib.LaidTab
import Derived.SizedLaws
import Derived.ChangeSlices
import Derived.Deep.Slices
import Derived.Test.YtepgiomgkgfioaaDoorByt
import Derived.Test.YtepgiomgkgfioaaDoorMtSup
import Derived.ChangeSame
namespace Go.Proofs.YtepgiomgkgfioaaDoor.K
open Go.RowKit Go.Maps
set_option linter.unusedVariables false
set_option linter.unusedSimpArgs false
set_option maxRecDepth 20000

/-- how many of n cached writes of a block a crash lets stand -/
def keptN (p : List Nat) (k n : Nat) : Nat := if p.length = 0 then 0 else p.getD (k % p.length) 0 % (n + 1)
theorem keptN_le (p : List Nat) (k n : Nat) : keptN p k n ≤ n := by
  unfold keptN
  split
  · omega
  · have := Nat.mod_lt (p.getD (k % p.length) 0) (show 0 < n + 1 by omega)
    omega

theorem tmod_nat (a b : Nat) : Int.tmod (a : Int) (b : Int) = ((a % b : Nat) : Int) := rfl

theorem kept_any {w : World} {v : Value} {p : List Nat} (hv : BSl w v p) (k n : Nat) (hk : k < 8192) (hn : n < 9223372036854775807) :
    Calls Tryd.prog 22 #[v, .int .i64 (k : Int), .int .i64 (n : Int)] w fun e w' => e = .returned (.int .i64 (keptN p k n : Int)) ∧ w' = w := by
  obtain ⟨a, cap, rfl, hl, hm, hn', hb, hcell⟩ := hv
  unfold maxLen at hm
  by_cases h0 : p.length = 0
  · have e1 : keptN p k n = 0 := by simp [keptN, h0]
    rw [e1, h0]
    clear hcell hb
    go_enter Tryd.func22, Tryd.ntmps22
    go_wp2
    go_ret
    exact ⟨rfl, rfl⟩
  · obtain ⟨g, off, rfl, hc⟩ := hcell (by omega)
    have e1 : keptN p k n = p.getD (k % p.length) 0 % (n + 1) := by simp [keptN, h0]
    have hkm : k % p.length < p.length := Nat.mod_lt _ (by omega)
    have hck := hc _ hkm
    have hx : p.getD (k % p.length) 0 < 256 := hb _ (mem_getD hkm)
    have t1 := tmod_nat k p.length
    have t2 := tmod_nat (p.getD (k % p.length) 0) (n + 1)
    rw [e1]
    clear hc hcell hb hn' e1
    generalize hj : k % p.length = j at *
    clear hj
    generalize p.getD j 0 = x at *
    have hN0 : ¬ (p.length : Int) = 0 := by omega
    generalize p.length = N at *
    have t2' : Int.tmod (x : Int) ((n : Int) + 1) = ((x % (n + 1) : Nat) : Int) := by rw [← t2]; rfl
    clear t2
    generalize x % (n + 1) = y at *
    go_enter Tryd.func22, Tryd.ntmps22
    go_wp2
    go_ret
    exact ⟨rfl, rfl⟩

def St.crash (S : St) (p : List Nat) : St := { S.allDown (fun k => keptN p k (S.cache k).length) with off := false, fuse := -1 }

set_option maxHeartbeats 1000000 in
theorem Crash_any {w : World} {L : Lay} {S : St} (hR : Rep w L S) {v : Value} {p : List Nat} (hv : BSl w v p) (hvU : 0 < p.length → ∀ g, blockOf v = some g → ¬ L.U g) (hlen : ∀ k, (S.cache k).length < 9223372036854775807) :
    Calls Tryd.prog 9 #[PD L, v] w fun e w' => e = .returned (.tuple #[]) ∧ Rep w' L (S.crash p) ∧ Grow w w' L.U L.U := by
  obtain ⟨A, D, ho1, hc1⟩ := hR
  have HV : Hid (∀ w', Grow w w' L.U L.U → BSl w' v p) := hide fun w' hg => by
    by_cases hp : 0 < p.length
    · exact hv.keptIf fun g hg1 hg2 => hg.keep g hg2 (hvU hp g hg1)
    · obtain ⟨a, cap, e, h1, h2, h3, h4, h5⟩ := hv
      exact ⟨a, cap, e, h1, h2, h3, h4, fun h => absurd h hp⟩
  have HNB := hide hc1.nb2
  have HLEN := hide hlen
  clear hv hvU hlen
  have c3 : w.cell? ⟨L.p, 3, none⟩ = some (.map (some L.cb)) := dcell hc1.hp 3
  unfold PD
  go_enter Tryd.func9, Tryd.ntmps9
  go_wp2_with (at_range; refine wpList_range_own _ rfl _ 56 rfl 3 52 kInt Tryd.underlying56 Rv L.cb 8192 D rfl ho1 ?_; intro w0 hrg0 hg0 hs0)
  go_frame
  obtain ⟨r, hr⟩ : ∃ r, r = w.heap.size := ⟨_, rfl⟩
  rw [← hr] at hrg0 ⊢
  have hrw : w.heap.size ≤ r := by rw [hr]; exact Nat.le_refl _
  have hrU : ¬ L.U r := fun hu => by have := hc1.uLt r hu; omega
  have hc0 : Core w0 L A D S := hc1.kept (fun b hb => hg0.block b (hc1.uLt b hb) (by simp)) hg0.size
  have hG0 : Grow w w0 L.U L.U := ⟨hg0.os, hg0.tape, hg0.output, hg0.size, fun b hb _ => hg0.block b hb (by simp), fun _ _ h => h, fun _ h => h⟩
  have START := hide (FInv.start (kept := fun k => keptN p k (S.cache k).length) hc0 hrg0 hG0 (fun k hk h0 => by have := keptN_le p k (S.cache k).length; rw [h0] at this ⊢; simp at this; exact this))
  clear hrg0 hg0 hs0 hc0 hG0 c3 hc1 ho1 hr
  go_loopw [11] (fun _ wr => ∃ left cnt A D, FInv w wr L r S (fun k => keptN p k (S.cache k).length) left cnt A D) (fun _ wr => wr.rangeLeft L.cb r)
  case atStart => exact ⟨_, _, _, _, START.out⟩
  case round =>
    clear START
    obtain ⟨left, cnt, A, D, hI⟩ := hrel
    have HI := hide hI
    have hrg := hI.rg
    clear hI
    go_wp2_with (at_next; refine wpList_nextF rfl _ rfl rfl HI.out ?_ ?_)
    · intro hl0
      have hRd := HI.out.done hl0.out
      have hGd := HI.out.gr
      have c4 : wr.cell? ⟨L.p, 4, none⟩ = some (.bool S.off) := rcell (U' := L.U) hRd 4
      have f4 := rfree (L := L) (U' := L.U) hRd 4
      have c5 : wr.cell? ⟨L.p, 5, none⟩ = some (.int .i64 S.fuse) := rcell (U' := L.U) hRd 5
      have f5 := rfree (L := L) (U' := L.U) hRd 5
      obtain ⟨h1, h2, h3⟩ := hRd.store 4 (.bool false) false S.fuse S.rd S.wr S.th S.fl hRd.fz rfl
      obtain ⟨k1, k2, k3⟩ := h1.store 5 (.int .i64 (-1)) false (-1) S.rd S.wr S.th S.fl (by omega) rfl
      have HK1 := hide k1
      have HK2 := hide (hGd.trans (h2.trans k2))
      clear hrg HI hRd h1 h2 h3 k1 k2 k3 hGd
      go_wp2
      go_end0
      exact ⟨rfl, HK1.out, HK2.out⟩
    · intro k a cp w2 cnt2 hk hlk0 hrg2 hlt hg2 hen
      have hlk := hlk0.out
      obtain ⟨hc2, hG2⟩ := HI.out.turned hrU hrw hg2.out
      have hcl : keptN p k (S.cache k).length ≤ ((S.settle (fun k => keptN p k (S.cache k).length) fun k => left (kL k)).cache k).length := by simp [St.settle, hlk]; exact keptN_le _ _ _
      have hrgd : w2.drew.ranges Tryd.prog 3 Rv L.cb r 8192 D (fun z => left z && !z.sameKey (kL k)) cnt2 := hrg2.out
      have HSET := hide (settle_any (w := w2.drew) (n := keptN p k (S.cache k).length) hrgd (hc2.kept (fun _ _ => rfl) (Nat.le_refl _)) (k := k) hk hcl hrU)
      have HKEP := hide (kept_any (w := w2.drew) (HV.out _ hG2.drew) k (S.cache k).length (by have := HNB.out; omega) (HLEN.out k))
      have c2 : w2.drew.cell? ⟨L.p, 2, none⟩ = some (medV L (S.settle (fun k => keptN p k (S.cache k).length) fun k => left (kL k))) := dcell (w := w2.drew) hc2.hp 2
      have c3 : w2.drew.cell? ⟨L.p, 3, none⟩ = some (.map (some L.cb)) := dcell (w := w2.drew) hc2.hp 3
      have HKp : Hid (∀ w', Two L w2.drew w' → ∀ i, w'.cell? ⟨L.p, i, none⟩ = w2.drew.cell? ⟨L.p, i, none⟩) := hide fun w' ht i => World.cell?_of_block (ht.keep L.p (fun e => by
        obtain ⟨ms, h1, _⟩ := hc2.hm
        have h2 := hc2.hp
        rw [e, h1] at h2
        simp at h2) (fun e => by
        obtain ⟨es, c, h, _⟩ := hrgd.owns
        have h2 : w2.drew.heap[L.p]? = _ := hc2.hp
        rw [e, h] at h2
        simp at h2))
      have HC2 := hide hc2
      have HG2 := hide hG2
      have HRGo := hide hrg
      clear hc2 hG2 hg2 hrg2 hrg hlk hcl hrgd
      generalize medV L (S.settle (fun k => keptN p k (S.cache k).length) fun k => left (kL k)) = mv at *
      generalize hM : keptN p k (S.cache k).length = M at *
      have HM := hide hM
      clear hM
      generalize hN : (S.cache k).length = N at *
      have HNn := hide hN
      clear hN
      go_wp2_with fail
      go_region_held3 (fun w' => w'.cell? ⟨L.p, 2, none⟩ = some mv ∧ w'.cell? ⟨L.p, 3, none⟩ = some (.map (some L.cb))) (first | (constructor <;> assumption) | go_keep)
        (first
          | (go_at_call 22; refine HKEP.out.mono ?_; rintro e w' ⟨rfl, rfl⟩)
          | (go_at_call 21; refine HSET.out.mono ?_; rintro e w' ⟨rfl, A', cnt3, hrg3, hle3, hc3, ht3⟩; have c2' : w'.cell? ⟨L.p, 2, none⟩ = some mv := (HKp.out w' ht3 2).trans c2; have c3' : w'.cell? ⟨L.p, 3, none⟩ = some (.map (some L.cb)) := (HKp.out w' ht3 3).trans c3; have HR3 := hide hrg3; have HL3 := hide hle3; have HC3 := hide hc3; have HT3 := hide ht3; clear hrg3 hle3 hc3 ht3))
      go_wp2
      go_roundw
      case rel =>
        refine ⟨_, _, _, _, HI.out.step hk hlk0.out (cnt' := cnt3) (A' := A') ?_ ?_ ((HG2.out.drew).two (HC2.out.kept (w' := w2.drew) (fun _ _ => rfl) (Nat.le_refl _)) HT3.out)⟩
        · have := HR3.out
          rw [Maps.strike_twice] at this
          exact this
        · rw [HNn.out, HM.out]; exact HC3.out
      case measure =>
        rw [HR3.out.left_eq, HRGo.out.left_eq]
        have h1 := HL3.out
        have h2 := hlt.out
        omega
end Go.Proofs.YtepgiomgkgfioaaDoor.K
namespace Go.Proofs.YtepgiomgkgfioaaDoor.K
open Go.RowKit Go.Maps
set_option linter.unusedVariables false
set_option linter.unusedSimpArgs false
set_option maxRecDepth 20000

def goodGeo (n s : Int) : Bool := decide (1 ≤ n ∧ n ≤ 8192 ∧ (s = 128 ∨ s = 256 ∨ s = 512 ∨ s = 1024))
theorem and_nat : ∀ d : Nat, d < 897 → (bits BinOp.and IntKind.i64 ((128 + d : Nat) : Int) ((127 + d : Nat) : Int) == 0) = decide (128 + d = 128 ∨ 128 + d = 256 ∨ 128 + d = 512 ∨ 128 + d = 1024) := by decide +kernel
theorem and_ok {n s : Int} (h0 : 1 ≤ n ∧ n ≤ 8192) (h1 : 128 ≤ s) (h2 : s ≤ 1024) : (bits BinOp.and IntKind.i64 s (s - 1) == 0) = goodGeo n s := by
  obtain ⟨d, rfl⟩ : ∃ d : Nat, s = ((128 + d : Nat) : Int) := ⟨(s - 128).toNat, by omega⟩
  have e : (((128 + d : Nat) : Int) - 1) = ((127 + d : Nat) : Int) := by omega
  rw [e, and_nat d (by omega)]
  unfold goodGeo
  apply decide_eq_decide.2
  omega

theorem geo_any (w : World) (n s : Int) :
    Calls Tryd.prog 14 #[.int .i64 n, .int .i64 s] w fun e w' => e = .returned (.bool (goodGeo n s)) ∧ w' = w := by
  by_cases h1 : n < 1
  · have e : goodGeo n s = false := decide_eq_false (by omega)
    rw [e]
    go_enter Tryd.func14, Tryd.ntmps14
    go_wp2
    go_ret
    exact ⟨rfl, rfl⟩
  · by_cases h2 : 8192 < n
    · have e : goodGeo n s = false := decide_eq_false (by omega)
      rw [e]
      go_enter Tryd.func14, Tryd.ntmps14
      go_wp2
      go_ret
      exact ⟨rfl, rfl⟩
    · by_cases h3 : s < 128
      · have e : goodGeo n s = false := decide_eq_false (by omega)
        rw [e]
        go_enter Tryd.func14, Tryd.ntmps14
        go_wp2
        go_ret
        exact ⟨rfl, rfl⟩
      · by_cases h4 : 1024 < s
        · have e : goodGeo n s = false := decide_eq_false (by omega)
          rw [e]
          go_enter Tryd.func14, Tryd.ntmps14
          go_wp2
          go_ret
          exact ⟨rfl, rfl⟩
        · have ha := and_ok (n := n) (s := s) (by omega) (by omega) (by omega)
          rw [← ha]
          have HA := hide ha
          clear ha
          go_enter Tryd.func14, Tryd.ntmps14
          go_wp2
          go_ret
          exact ⟨rfl, rfl⟩

/-- a medium whose blocks hold f -/
def MedRow (w : World) (mb nb : Nat) (f : Nat → List Nat) (g : Nat → Nat) : Prop :=
  w.heap[mb]? = some (.cells ((List.range nb).map fun i => sl (g i) (f i).length).toArray 29 (0, 0)) ∧ ∀ i, i < nb → PieceAt w (g i) (f i)

def St.fresh (nb sz : Nat) (f : Nat → List Nat) : St := { nb := nb, sz := sz, med := fun i => some (f i), cache := fun _ => [], off := false, fuse := -1, rd := 0, wr := 0, th := 0, fl := 0 }

theorem made_any (w : World) (nb sz mb : Nat) :
    Calls Tryd.prog 15 #[.int .i64 (nb : Int), .int .i64 (sz : Int), .slice (some ⟨mb, 0, none⟩) nb nb] w fun e w' => e = .returned (.pointer (some ⟨w.heap.size + 1, 0, none⟩)) ∧ w' = (w.alloc (.map #[] 0)).alloc (.cells #[.int .i64 (nb : Int), .int .i64 (sz : Int), .slice (some ⟨mb, 0, none⟩) nb nb, .map (some w.heap.size), .bool false, .int .i64 (-1), .int .i64 0, .int .i64 0, .int .i64 0, .int .i64 0] 60) := by
  have hmm := fun W : World => run_makeMap (P := Tryd.prog) 56 W
  go_enter Tryd.func15, Tryd.ntmps15
  go_wp2
  go_ret
  exact ⟨rfl, rfl⟩

theorem rep_made {w0 w : World} {nb sz mb : Nat} {f : Nat → List Nat} {g : Nat → Nat} (hb : Below w0.heap.size w0 w) (hm : MedRow w mb nb f g) (hmb : w0.heap.size ≤ mb) (hg : ∀ i, i < nb → w0.heap.size ≤ g i) (h1 : 1 ≤ nb) (h2 : nb ≤ 8192) (hs : sz = 128 ∨ sz = 256 ∨ sz = 512 ∨ sz = 1024) (hl : ∀ i, i < nb → (f i).length = sz) :
    Rep ((w.alloc (.map #[] 0)).alloc (.cells #[.int .i64 (nb : Int), .int .i64 (sz : Int), .slice (some ⟨mb, 0, none⟩) nb nb, .map (some w.heap.size), .bool false, .int .i64 (-1), .int .i64 0, .int .i64 0, .int .i64 0, .int .i64 0] 60)) ⟨w.heap.size + 1, mb, w.heap.size, fun b => w0.heap.size ≤ b ∧ b < w.heap.size + 2⟩ (St.fresh nb sz f) := by
  have k1 : ∀ b, b < w.heap.size → ((w.alloc (.map #[] 0)).alloc (.cells #[.int .i64 (nb : Int), .int .i64 (sz : Int), .slice (some ⟨mb, 0, none⟩) nb nb, .map (some w.heap.size), .bool false, .int .i64 (-1), .int .i64 0, .int .i64 0, .int .i64 0, .int .i64 0] 60)).heap[b]? = w.heap[b]? := fun b hb' => by
    rw [Below.heap_alloc _ _ b (by simp; omega), Below.heap_alloc _ _ b hb']
  have hml : mb < w.heap.size := (Array.getElem?_eq_some_iff.1 hm.1).1
  have hsz := hb.size
  refine ⟨fun _ => nilS, .map [], ?_, ?_⟩
  · exact ((World.ownsMap_made w Tryd.prog 3 Rv).mono (Nat.zero_le _)).alloc _
  · refine ⟨h1, h2, hs, by simp [St.fresh], Go.heap_alloc_new (w.alloc (.map #[] 0)) _ |> fun h => by simpa [diskRow, St.fresh] using h, ⟨_, (k1 mb hml).trans hm.1, by simp [St.fresh], fun i hi => ?_⟩, fun i l hi hl' => ?_, fun i l _ hl' => ?_, fun kl hkl => ?_, fun k hk => ?_, fun k hk => rfl, fun k hk => ?_, fun k j _ _ _ gg h => ?_, fun k _ => by simp [nilS, Value.ownBlock], ?_, ?_, ?_, fun b hb' => ?_⟩
    · have hi' : i < nb := hi
      refine ⟨sl (g i) (f i).length, by simp [hi'], ?_⟩
      have hp := hm.2 i hi'
      exact ⟨g i, rfl, hp.kept (k1 _ hp.lt), hg i hi', by have := hp.lt; show g i < w.heap.size + 2; omega⟩
    · simp only [St.fresh, Option.some.injEq] at hl'
      rw [← hl']; exact hl i hi
    · simp [St.fresh] at hl'
    · simp [has] at hkl
    · simp [has, St.fresh]
    · exact ⟨[], rfl, World.ownsRow_nil _ 0 29 1, by simp [St.fresh], by simp [nilS, Value.ownBlock], fun _ => rfl⟩
    · simp [nilS, Value.ownBlock] at h
    · exact ⟨by show w0.heap.size ≤ w.heap.size + 1; omega, by show w.heap.size + 1 < w.heap.size + 2; omega⟩
    · exact ⟨hmb, by show mb < w.heap.size + 2; omega⟩
    · exact ⟨hsz, by show w.heap.size < w.heap.size + 2; omega⟩
    · simp only [World.size_alloc]
      have : b < w.heap.size + 2 := hb'.2
      omega
end Go.Proofs.YtepgiomgkgfioaaDoor.K

namespace Go.Proofs.YtepgiomgkgfioaaDoor.K
open Go.RowKit Go.Maps
set_option linter.unusedVariables false
set_option linter.unusedSimpArgs false
set_option maxRecDepth 20000

/-- a medium that is being laid: the first i blocks are -/
def midRow (nb i : Nat) (f : Nat → Value) : Array Value := ((List.range nb).map fun j => if j < i then f j else nilS).toArray
theorem midRow_size (nb i : Nat) (f : Nat → Value) : (midRow nb i f).size = nb := by simp [midRow]
theorem midRow_get {nb i j : Nat} (f : Nat → Value) (hj : j < nb) : (midRow nb i f)[j]? = some (if j < i then f j else nilS) := by simp [midRow, hj]
theorem midRow_set {nb i : Nat} (f : Nat → Value) (hi : i < nb) : (midRow nb i f).setIfInBounds i (f i) = midRow nb (i + 1) f := by
  apply Array.ext_getElem?
  intro j
  by_cases hj : j < nb
  · by_cases e : j = i
    · subst e
      rw [Array.getElem?_setIfInBounds_self_of_lt (by rw [midRow_size]; exact hi), midRow_get f hj, if_pos (by omega)]
    · rw [Array.getElem?_setIfInBounds_ne (by omega), midRow_get f hj, midRow_get f hj]
      by_cases h : j < i
      · rw [if_pos h, if_pos (by omega)]
      · rw [if_neg h, if_neg (by omega)]
  · rw [Array.getElem?_eq_none (by simp [midRow]; omega), Array.getElem?_eq_none (by simp [midRow]; omega)]
theorem midRow_full (nb : Nat) (f : Nat → Value) : midRow nb nb f = ((List.range nb).map f).toArray := by
  unfold midRow
  congr 1
  apply List.map_congr_left
  intro j hj
  rw [if_pos (List.mem_range.1 hj)]
theorem made_nils (n : Nat) (f : Nat → Value) : madeCells (Value.slice none 0 0).cells (n * 1) = midRow n 0 f := by
  apply Array.ext_getElem?
  intro i
  by_cases h : i < n
  · rw [midRow_get f h, if_neg (by omega)]
    simp [madeCells, Value.cells, h, Nat.mod_one, nilS]
  · rw [Array.getElem?_eq_none (by rw [size_madeCells]; omega), Array.getElem?_eq_none (by rw [midRow_size]; omega)]

/-- 'make(medium, n)' -/
theorem wpList_nils {ops : Array Oper} {rest : List Oper} {o : Oper} {a : Act} {w : World} {Q : Exit → Act → World → Prop} (hgd : o.guard = none) (l c : Operand) (ho : o.op = Op.makeSlice 53 l c)
    (C : Int) (n : Nat) (hl : a.eval l = .int .i64 C) (hc : a.eval c = .int .i64 C) (hC : C = (n : Int)) (hn : n ≤ 8192) (f : Nat → Value)
    (h : wpList Tryd.prog ops Q rest (a.put o.dst (.slice (some ⟨w.heap.size, 0, none⟩) n n)) (w.alloc (.cells (midRow n 0 f) 29))) : wpList Tryd.prog ops Q (o :: rest) a w := by
  obtain ⟨i0, hi, hz0, hz1, hz2⟩ := info_parts info_bytes
  subst hC
  refine wpList_plain hgd fun K' hK' => ?_
  have hr := run_make (P := Tryd.prog) w 53 29 i0 (.slice none 0 0) Tryd.underlying53 hi hz0 .i64 .i64 (n : Int) (n : Int) (by omega) (Int.le_refl _) (by rw [hz2]; omega) (by omega)
  simp only [Int.toNat_natCast] at hr
  rw [hz1, made_nils n f] at hr
  unfold Oper.wp
  simp only [execOp, ho, hl, hc, hr, Sem.run_bind, Result.andThen_ok, Sem.run_pure]
  exact hK' _ _ h

structure BInv (w wr : World) (nb sz i : Nat) : Prop where
  hi : i ≤ nb
  row : wr.heap[w.heap.size]? = some (.cells (midRow nb i fun _ => sl (w.heap.size + 1) sz) 29 (0, 0))
  pc : PieceAt wr (w.heap.size + 1) (zeros sz)
  be : Below w.heap.size w wr
  sz : wr.heap.size = w.heap.size + 2

theorem blank_any (w : World) (nb sz : Nat) (hnb : nb ≤ 8192) (hsz : sz = 128 ∨ sz = 256 ∨ sz = 512 ∨ sz = 1024) :
    Calls Tryd.prog 16 #[.int .i64 (nb : Int), .int .i64 (sz : Int)] w fun e w' => e = .returned (.slice (some ⟨w.heap.size, 0, none⟩) nb nb) ∧ BInv w w' nb sz nb := by
  have hszn : sz ≤ 281474976710656 := by omega
  obtain ⟨Z, hZ⟩ : ∃ Z, ((zeros sz).map byteV).toArray = Z := ⟨_, rfl⟩
  have START : Hid (BInv w ((w.alloc (.cells (midRow nb 0 fun _ => sl (w.heap.size + 1) sz) 29)).alloc (.cells Z 5)) nb sz 0) := hide
    ⟨Nat.zero_le _, by rw [Below.heap_alloc _ _ _ (by simp)]; exact Go.heap_alloc_new w _, ⟨by rw [hZ]; have := Go.heap_alloc_new (w.alloc (.cells (midRow nb 0 fun _ => sl (w.heap.size + 1) sz) 29)) (.cells Z 5); simpa using this, zeros_lt _, by rw [zeros_len]; unfold maxLen; omega, by rw [zeros_len]; omega⟩, ((Below.refl _ _).alloc (Nat.le_refl _) _).alloc (by simp) _, by simp⟩
  have HZ := hide hZ
  clear hZ
  go_enter Tryd.func16, Tryd.ntmps16
  go_wp2_with (first
    | (at_make; refine wpList_nils rfl _ _ rfl _ nb rfl rfl rfl hnb (fun _ => sl (w.heap.size + 1) sz) ?_)
    | (at_make; refine wpList_zeros rfl _ _ rfl _ sz rfl rfl rfl hszn Z HZ ?_))
  go_loopw [14] (fun i wr => ∃ n : Nat, i = .int .i64 (n : Int) ∧ BInv w wr nb sz n) (fun i _ => nb - (intOf i).toNat)
  case atStart => exact ⟨0, rfl, START.out⟩
  case round =>
    clear START
    obtain ⟨n, rfl, hI⟩ := hrel
    have hn := hI.hi
    have HI := hide hI
    have hrow := hI.row
    clear hI
    by_cases hlt : n < nb
    · have hc : wr.cell? ⟨w.heap.size, n, none⟩ = some nilS := by rw [cell_of_row _ _ _ _ _ _ hrow, midRow_get _ hlt, if_neg (by omega)]
      have hf : wr.frozen? ⟨w.heap.size, n, none⟩ = false := frozen_of_row _ _ _ _ 29 hrow
      have HN : Hid (BInv w (wr.setCell ⟨w.heap.size, n, none⟩ (sl (w.heap.size + 1) sz)) nb sz (n + 1)) := hide
        ⟨by omega, by rw [← midRow_set _ hlt]; exact Go.heap_setCell_same wr w.heap.size n _ 29 _ HI.out.row, HI.out.pc.kept (Go.heap_setCell_other _ _ _ _ (by simp)), HI.out.be.setCell (p := ⟨w.heap.size, n, none⟩) (Nat.le_refl _) _, by simp [World.setCell]; exact HI.out.sz⟩
      clear hrow
      go_wp2
      go_roundw
      case rel => exact ⟨n + 1, by go_num, HN.out⟩
      case measure => simp [intOf]; omega
    · have e : n = nb := by omega
      subst e
      clear hrow
      go_wp2
      go_ret
      exact ⟨rfl, HI.out⟩

/-- what New leaves -/
def NewPost (w : World) (nb sz : Nat) (f : Nat → List Nat) (e : Ending) (w' : World) : Prop :=
  ∃ L : Lay, e = .returned (.tuple #[PD L, .int .i64 0]) ∧ Rep w' L (St.fresh nb sz f) ∧ Below w.heap.size w w' ∧ ∀ b, L.U b → w.heap.size ≤ b

theorem New_bad (w : World) (n s : Int) (h : goodGeo n s = false) :
    Calls Tryd.prog 5 #[.int .i64 n, .int .i64 s] w fun e w' => e = .returned (.tuple #[.pointer none, .int .i64 1]) ∧ w' = w := by
  go_enter Tryd.func5, Tryd.ntmps5
  go_wp2_with (go_at_call 14; refine (geo_any _ _ _).mono ?_; rintro e w' ⟨rfl, rfl⟩; rw [h])
  go_ret2
  exact ⟨rfl, rfl⟩

theorem New_any (w : World) (nb sz : Nat) (h1 : 1 ≤ nb) (h2 : nb ≤ 8192) (hs : sz = 128 ∨ sz = 256 ∨ sz = 512 ∨ sz = 1024) :
    Calls Tryd.prog 5 #[.int .i64 (nb : Int), .int .i64 (sz : Int)] w fun e w' => NewPost w nb sz (fun _ => zeros sz) e w' := by
  have h : goodGeo nb sz = true := decide_eq_true (by omega)
  have HB := hide (blank_any w nb sz h2 hs)
  have HS := hide hs
  clear hs
  go_enter Tryd.func5, Tryd.ntmps5
  go_wp2_with (first
    | (go_at_call 14; refine (geo_any _ _ _).mono ?_; rintro e w0 ⟨rfl, e0⟩; rw [h]; cases e0)
    | (go_at_call 16; refine HB.out.mono ?_; rintro e w1 ⟨rfl, hI⟩; have HI := hide hI; clear hI)
    | (go_at_call 15; refine (made_any _ _ _ _).mono ?_; rintro e w2 ⟨rfl, rfl⟩))
  go_ret2
  have hm : MedRow w1 w.heap.size nb (fun _ => zeros sz) (fun _ => w.heap.size + 1) := ⟨by have := HI.out.row; rw [midRow_full] at this; simpa [zeros_len] using this, fun i _ => HI.out.pc⟩
  have hR := rep_made HI.out.be hm (Nat.le_refl _) (fun _ _ => by omega) h1 h2 HS.out (fun _ _ => zeros_len _)
  exact ⟨_, rfl, hR, (HI.out.be.alloc HI.out.be.size _).alloc (by simp; exact Nat.le_succ_of_le HI.out.be.size) _, fun b hb => hb.1⟩
end Go.Proofs.YtepgiomgkgfioaaDoor.K
namespace Go.Proofs.YtepgiomgkgfioaaDoor
open Go.RowKit
set_option linter.unusedVariables false
set_option linter.unusedSimpArgs false
set_option maxRecDepth 20000

theorem uns_nil : (uns []).2 ≠ 0 := by
  unfold uns
  rw [if_neg (by decide)]
  decide
theorem uns_zeros (n : Nat) : (uns (K.zeros n)).2 ≠ 0 := by
  intro h
  have hu : uns (K.zeros n) = ((uns (K.zeros n)).1, 0) := by rw [← h]
  have hb : ∀ x ∈ K.zeros n, x < 256 := fun x hx => by
    unfold K.zeros at hx
    have := (List.mem_replicate.1 hx).2
    omega
  obtain ⟨ho, he⟩ := uns_only hb hu
  have h0 : (K.zeros n)[0]? = (uns (K.zeros n)).1.enc[0]? := by rw [← he]
  generalize (uns (K.zeros n)).1 = s at *
  have hl : 0 < s.fld.length := by rw [Sup.fld_len]; omega
  rw [Sup.enc, Sup.head, List.append_assoc, List.getElem?_append_left hl] at h0
  have h1 : s.fld[0]? = some 82 := by
    unfold Sup.fld
    rfl
  rw [h1] at h0
  unfold K.zeros at h0
  rw [List.getElem?_replicate] at h0
  split at h0
  · simp at h0
  · simp at h0
/-- what lies in slot k behind superblocks E, written in turn -/
def lastE (z : Nat) (E : List (List Nat)) (k : Nat) : List Nat := if E.length = 0 then K.zeros z else if (E.length - 1) % 2 = k then E.getD (E.length - 1) [] else if E.length = 1 then K.zeros z else E.getD (E.length - 2) []
theorem lastE_0 (z : Nat) {E : List (List Nat)} (k : Nat) (h : E.length = 0) : lastE z E k = K.zeros z := by unfold lastE; rw [if_pos h]
theorem lastE_hit (z : Nat) {E : List (List Nat)} {k : Nat} (h : 0 < E.length) (hk : (E.length - 1) % 2 = k) : lastE z E k = E.getD (E.length - 1) [] := by unfold lastE; rw [if_neg (by omega), if_pos hk]
theorem lastE_1 (z : Nat) {E : List (List Nat)} {k : Nat} (h : E.length = 1) (hk : ¬ (E.length - 1) % 2 = k) : lastE z E k = K.zeros z := by unfold lastE; rw [if_neg (by omega), if_neg hk, if_pos h]
theorem lastE_miss (z : Nat) {E : List (List Nat)} {k : Nat} (h : 1 < E.length) (hk : ¬ (E.length - 1) % 2 = k) : lastE z E k = E.getD (E.length - 2) [] := by unfold lastE; rw [if_neg (by omega), if_neg hk, if_neg (by omega)]
theorem lastE_new (z : Nat) (E : List (List Nat)) (e : List Nat) : lastE z (E ++ [e]) (E.length % 2) = e := by
  unfold lastE
  rw [if_neg (by simp), if_pos (by simp)]
  simp [List.getD]
theorem lastE_old (z : Nat) (E : List (List Nat)) (e : List Nat) {k : Nat} (hk : k < 2) (hn : k ≠ E.length % 2) : lastE z (E ++ [e]) k = lastE z E k := by
  have hl : (E ++ [e]).length = E.length + 1 := by simp
  by_cases h0 : E.length = 0
  · rw [lastE_0 (E := E) z k h0, lastE_1 (E := E ++ [e]) z (by omega) (by rw [hl]; omega)]
  · rw [lastE_hit (E := E) (k := k) z (by omega) (by omega), lastE_miss (E := E ++ [e]) z (by omega) (by rw [hl]; omega), hl, show E.length + 1 - 2 = E.length - 1 by omega]
    simp [List.getD, List.getElem?_append_left (show E.length - 1 < E.length by omega)]
/-- the disk behind i writes in turn, E of which were done -/
structure TI (S : K.St) (z : Nat) (E : List (List Nat)) (i : Nat) (f0 : Int) : Prop where
  nb : S.nb = 2
  sz : S.sz = z
  ca : ∀ k, S.cache k = []
  md : ∀ k, k < 2 → S.med k = some (lastE z E k)
  rn : (f0 < 0 ∧ E.length = i ∧ S.fuse = -1 ∧ S.off = false) ∨ (0 ≤ f0 ∧ (i : Int) ≤ f0 ∧ E.length = i ∧ S.fuse = f0 - i ∧ S.off = false) ∨ (0 ≤ f0 ∧ f0 < i ∧ (E.length : Int) = f0 ∧ S.fuse = 0 ∧ S.off = true)
theorem TI.start (z : Nat) (f : Int) : TI ((K.St.fresh 2 z (fun _ => K.zeros z)).fused f) z [] 0 (if f < -1 then -1 else f) := by
  refine ⟨rfl, rfl, fun _ => rfl, fun k _ => rfl, ?_⟩
  by_cases h : f < -1
  · rw [if_pos h]
    exact .inl ⟨by omega, rfl, by show (if f < -1 then -1 else f) = -1; rw [if_pos h], rfl⟩
  · rw [if_neg h]
    by_cases h0 : f < 0
    · exact .inl ⟨h0, rfl, by show (if f < -1 then -1 else f) = -1; rw [if_neg h]; omega, rfl⟩
    · exact .inr (.inl ⟨by omega, by simp; omega, rfl, by show (if f < -1 then -1 else f) = _; rw [if_neg h]; simp, rfl⟩)
theorem TI.len {S : K.St} {z i : Nat} {E : List (List Nat)} {f0 : Int} (h : TI S z E i f0) : E.length ≤ i := by
  rcases h.rn with ⟨_, q, _⟩ | ⟨_, _, q, _⟩ | ⟨_, _, q, _⟩ <;> omega
theorem TI.yes {S : K.St} {z i : Nat} {E : List (List Nat)} {f0 : Int} (h : TI S z E i f0) (hr : f0 < 0 ∨ (i : Int) < f0) {e : List Nat} (he : e.length = z) : S.putErr ((i % 2 : Nat) : Int) e.length = 0 ∧ TI (S.through ((i % 2 : Nat) : Int) e) z (E ++ [e]) (i + 1) f0 := by
  have hb : (0 : Int) ≤ ((i % 2 : Nat) : Int) ∧ ((i % 2 : Nat) : Int) < (S.nb : Int) := by rw [h.nb]; omega
  have hel : E.length = i := by rcases h.rn with ⟨_, q, _⟩ | ⟨_, _, q, _⟩ | ⟨_, _, q, _⟩ <;> omega
  have hso : S.stepOk = true := by
    unfold K.St.stepOk
    rcases h.rn with ⟨_, _, q1, q2⟩ | ⟨_, _, _, q1, q2⟩ | ⟨_, _, _⟩
    · rw [q1, q2]; rfl
    · rw [q1, q2]; simp; omega
    · omega
  have hpe : S.putErr ((i % 2 : Nat) : Int) e.length = 0 := by
    unfold K.St.putErr
    rw [if_neg (by simpa using hb), if_neg (by rw [he, h.sz]; simp), if_neg (by simp [hso])]
  refine ⟨hpe, ?_⟩
  have hst : S.through ((i % 2 : Nat) : Int) e = ((S.step.laid (i % 2) (some e)).dropped (i % 2)).addTh := by
    unfold K.St.through K.St.putSt
    rw [if_pos hpe]
    rw [show (((i % 2 : Nat) : Int)).toNat = i % 2 from Int.toNat_natCast _]
  rw [hst]
  have hs : S.step.nb = S.nb ∧ S.step.sz = S.sz ∧ S.step.cache = S.cache ∧ S.step.med = S.med ∧ S.step.off = S.off ∧ S.step.fuse = if 0 < S.fuse then S.fuse - 1 else S.fuse := by
    unfold K.St.step
    have h0 : ¬ S.fuse = 0 := fun e0 => by simp [K.St.stepOk, e0] at hso
    have h1 : ¬ S.off = true := fun e0 => by simp [K.St.stepOk, e0] at hso
    rw [if_neg h0, if_neg h1]
    split <;> simp
  obtain ⟨s1, s2, s3, s4, s5, s6⟩ := hs
  refine ⟨s1.trans h.nb, s2.trans h.sz, fun k => ?_, fun k hk => ?_, ?_⟩
  · show K.updF S.step.cache (i % 2) [] k = []
    unfold K.updF
    rw [s3]
    split
    · rfl
    · exact h.ca k
  · show K.updF S.step.med (i % 2) (some e) k = _
    unfold K.updF
    rw [s4]
    by_cases hki : k = i % 2
    · rw [if_pos hki, hki, ← hel, lastE_new]
    · rw [if_neg hki, lastE_old z E e hk (by rw [hel]; exact hki)]
      exact h.md k hk
  · have e1 : (((S.step.laid (i % 2) (some e)).dropped (i % 2)).addTh).fuse = S.step.fuse := rfl
    have e2 : (((S.step.laid (i % 2) (some e)).dropped (i % 2)).addTh).off = S.step.off := rfl
    rw [e1, e2, s5, s6]
    rcases h.rn with ⟨q1, q2, q3, q4⟩ | ⟨q1, q2, q3, q4, q5⟩ | ⟨_, _, _⟩
    · exact .inl ⟨q1, by simp [q2], by rw [q3]; rfl, q4⟩
    · refine .inr (.inl ⟨q1, by omega, by simp [q3], ?_, q5⟩)
      rw [q4, if_pos (by omega)]
      omega
    · omega
theorem TI.no {S : K.St} {z i : Nat} {E : List (List Nat)} {f0 : Int} (h : TI S z E i f0) (hr : ¬ (f0 < 0 ∨ (i : Int) < f0)) {e : List Nat} (he : e.length = z) : S.putErr ((i % 2 : Nat) : Int) e.length = 22 ∧ TI (S.through ((i % 2 : Nat) : Int) e) z E (i + 1) f0 := by
  have hb : (0 : Int) ≤ ((i % 2 : Nat) : Int) ∧ ((i % 2 : Nat) : Int) < (S.nb : Int) := by rw [h.nb]; omega
  have hf : S.fuse = 0 := by
    rcases h.rn with ⟨_, _, q1, q2⟩ | ⟨_, _, _, q1, q2⟩ | ⟨_, _, _, q, _⟩
    · omega
    · omega
    · exact q
  have hso : S.stepOk = false := by simp [K.St.stepOk, hf]
  have hpe : S.putErr ((i % 2 : Nat) : Int) e.length = 22 := by
    unfold K.St.putErr
    rw [if_neg (by simpa using hb), if_neg (by rw [he, h.sz]; simp), if_pos hso]
  refine ⟨hpe, ?_⟩
  have hst : S.through ((i % 2 : Nat) : Int) e = { S with off := true } := by
    unfold K.St.through K.St.putSt
    rw [hpe, if_neg (by decide), if_pos rfl]
    unfold K.St.step
    rw [if_pos hf]
  rw [hst]
  refine ⟨h.nb, h.sz, h.ca, h.md, .inr (.inr ⟨by omega, by omega, ?_, hf, rfl⟩)⟩
  rcases h.rn with ⟨_, _, q1, q2⟩ | ⟨_, _, _, q1, q2⟩ | ⟨_, _, q, _, _⟩
  · omega
  · omega
  · exact q
/-- behind the crash -/
structure TC (S : K.St) (E : Nat → Option (List Nat)) : Prop where
  nb : S.nb = 2
  ca : ∀ k, S.cache k = []
  md : ∀ k, k < 2 → S.med k = E k
  of_ : S.off = false
theorem TI.crash {S : K.St} {z i : Nat} {E : List (List Nat)} {f0 : Int} (h : TI S z E i f0) (p : List Nat) : TC (S.crash p) (fun k => some (lastE z E k)) := by
  refine ⟨h.nb, fun k => rfl, fun k hk => ?_, rfl⟩
  show (if 0 < K.keptN p k (S.cache k).length then _ else S.med k) = _
  have := K.keptN_le p k (S.cache k).length
  rw [h.ca k] at this ⊢
  rw [if_neg (by simp at this ⊢; omega)]
  exact h.md k hk
theorem TC.spoil {S : K.St} {E : Nat → Option (List Nat)} (h : TC S E) {k : Nat} (hk : k < 2) : S.spoilErr (k : Int) = 0 ∧ TC (S.spoil (k : Int)) (fun j => if j = k then none else E j) := by
  have hb : 0 ≤ (k : Int) ∧ (k : Int) < (S.nb : Int) := by rw [h.nb]; omega
  refine ⟨by unfold K.St.spoilErr; rw [if_pos hb], ?_⟩
  unfold K.St.spoil
  rw [if_pos hb]
  refine ⟨h.nb, h.ca, fun j hj => ?_, h.of_⟩
  show K.updF S.med (k : Int).toNat none j = _
  unfold K.updF
  simp only [Int.toNat_natCast]
  split
  · rfl
  · exact h.md j hj
theorem TC.val {S : K.St} {E : Nat → Option (List Nat)} (h : TC S E) {k : Nat} (hk : k < 2) : S.val k = E k := by
  unfold K.St.val
  rw [h.ca k]
  exact h.md k hk
theorem TC.rerr {S : K.St} {E : Nat → Option (List Nat)} (h : TC S E) {k : Nat} (hk : k < 2) : S.readErr (k : Int) = (if E k = none then 21 else 0) := by
  have hb : 0 ≤ (k : Int) ∧ (k : Int) < (S.nb : Int) := by rw [h.nb]; omega
  unfold K.St.readErr
  rw [if_neg (by simpa using hb), if_neg (by rw [h.of_]; decide)]
  simp only [Int.toNat_natCast, h.val hk]
theorem TC.read {S : K.St} {E : Nat → Option (List Nat)} (h : TC S E) (b : Int) : TC (S.read b) E := by
  unfold K.St.read
  split
  · exact ⟨h.nb, h.ca, h.md, h.of_⟩
  · exact h
/-- superblocks whose numbers rise -/
structure Rise (D : List Sup) (z : Nat) : Prop where
  ok : ∀ s ∈ D, s.Ok ∧ s.size = (z : Int)
  up : ∀ j (h : j + 1 < D.length), D[j].seq < D[j + 1].seq
def rdO (o : Option (List Nat)) : List Nat := o.getD []
theorem getD_enc (D : List Sup) {j : Nat} (h : j < D.length) : (D.map Sup.enc).getD j [] = D[j].enc := by simp [List.getD, h]
theorem Rise.uns {D : List Sup} {z : Nat} (h : Rise D z) {j : Nat} (hj : j < D.length) : Go.Proofs.YtepgiomgkgfioaaDoor.uns ((D.map Sup.enc).getD j []) = (D[j], 0) := by
  rw [getD_enc D hj]
  exact uns_enc (h.ok _ (List.getElem_mem hj)).1
theorem fin_plain {D : List Sup} {z : Nat} (h : Rise D z) (hm : 0 < D.length) : cho (uns (lastE z (D.map Sup.enc) 0)) (uns (lastE z (D.map Sup.enc) 1)) = (D[D.length - 1], (((D.length - 1) % 2 : Nat) : Int), 0) := by
  have u1 := h.uns (j := D.length - 1) (by omega)
  have hl : (D.map Sup.enc).length = D.length := List.length_map _
  by_cases hp : (D.length - 1) % 2 = 0
  · rw [lastE_hit (k := 0) z (by omega) (by rw [hl]; exact hp), hl, u1, hp]
    by_cases h1 : D.length = 1
    · rw [lastE_1 (k := 1) z (by omega) (by rw [hl]; omega)]
      unfold cho
      rw [if_neg (by simp), if_neg (by simp), if_pos (.inl (uns_zeros z))]
      rfl
    · have u2 := h.uns (j := D.length - 2) (by omega)
      have hup := h.up (D.length - 2) (by omega)
      have e : D[D.length - 2 + 1]'(by omega) = D[D.length - 1] := by congr 1; omega
      rw [e] at hup
      rw [lastE_miss (k := 1) z (by omega) (by rw [hl]; omega), hl, u2]
      unfold cho
      rw [if_neg (by simp), if_neg (by simp), if_pos (.inr (by dsimp only; omega))]
      rfl
  · have h1 : 1 < D.length := Classical.byContradiction fun e => by
      have : D.length = 1 := by omega
      rw [this] at hp
      simp at hp
    have u2 := h.uns (j := D.length - 2) (by omega)
    have hup := h.up (D.length - 2) (by omega)
    have e : D[D.length - 2 + 1]'(by omega) = D[D.length - 1] := by congr 1; omega
    rw [e] at hup
    have hp1 : (D.length - 1) % 2 = 1 := by omega
    rw [lastE_miss (k := 0) z (by omega) (by rw [hl]; exact hp), lastE_hit (k := 1) z (by omega) (by rw [hl]; exact hp1), hl, u1, u2, hp1]
    unfold cho
    rw [if_neg (by simp), if_neg (by simp), if_neg (by simp; omega)]
    rfl
theorem fin_none (z : Nat) : (cho (uns (lastE z [] 0)) (uns (lastE z [] 1))).2.2 ≠ 0 := by
  rw [lastE_0 z 0 rfl, lastE_0 z 1 rfl]
  unfold cho
  rw [if_pos ⟨uns_zeros z, uns_zeros z⟩]
  decide
theorem fin_spoilt {D : List Sup} {z : Nat} (h : Rise D z) (hm : 1 < D.length) : cho (uns (rdO (if 0 = (D.length - 1) % 2 then none else some (lastE z (D.map Sup.enc) 0)))) (uns (rdO (if 1 = (D.length - 1) % 2 then none else some (lastE z (D.map Sup.enc) 1)))) = (D[D.length - 2], (((D.length - 2) % 2 : Nat) : Int), 0) := by
  have u2 := h.uns (j := D.length - 2) (by omega)
  have hl : (D.map Sup.enc).length = D.length := List.length_map _
  by_cases hp : (D.length - 1) % 2 = 0
  · rw [if_pos hp.symm, if_neg (by omega), lastE_miss (k := 1) z (by omega) (by rw [hl]; omega), hl]
    unfold rdO
    simp only [Option.getD_none, Option.getD_some]
    rw [u2, show (D.length - 2) % 2 = 1 by omega]
    unfold cho
    rw [if_neg (by simp), if_pos uns_nil]
    rfl
  · rw [if_neg (by omega), if_pos (by omega), lastE_miss (k := 0) z (by omega) (by rw [hl]; omega), hl]
    unfold rdO
    simp only [Option.getD_none, Option.getD_some]
    rw [u2, show (D.length - 2) % 2 = 0 by omega]
    unfold cho
    rw [if_neg (by simp), if_neg (by simp), if_pos (.inl uns_nil)]
    rfl
theorem fin_spoilt1 {D : List Sup} {z : Nat} (hm : D.length = 1) : (cho (uns (rdO (if 0 = (D.length - 1) % 2 then none else some (lastE z (D.map Sup.enc) 0)))) (uns (rdO (if 1 = (D.length - 1) % 2 then none else some (lastE z (D.map Sup.enc) 1))))).2.2 ≠ 0 := by
  have hl : (D.map Sup.enc).length = D.length := List.length_map _
  rw [if_pos (by rw [hm]), if_neg (by rw [hm]; decide), lastE_1 (k := 1) z (by omega) (by rw [hl, hm]; decide)]
  unfold rdO cho
  simp only [Option.getD_none, Option.getD_some]
  rw [if_pos ⟨uns_nil, uns_zeros z⟩]
  decide
end Go.Proofs.YtepgiomgkgfioaaDoor
namespace Go.Proofs.YtepgiomgkgfioaaDoor
open Go.RowKit
set_option linter.unusedVariables false
set_option linter.unusedSimpArgs false
set_option maxRecDepth 20000

section
/-- an append: v the list ahead, v' behind: in new memory, or in place -/
def Upon (w w' : World) (v v' : Value) : Prop := (v'.ownBlock = some w.heap.size ∧ w.grownBy w' none) ∨ (∃ g, v.ownBlock = some g ∧ v'.ownBlock = some g ∧ w.grownBy w' (some g))
theorem Upon.block {w w' : World} {v v' : Value} (h : Upon w w' v v') : ∀ b, b < w.heap.size → v.ownBlock ≠ some b → w'.heap[b]? = w.heap[b]? := fun b hb hne => by
  rcases h with ⟨_, h⟩ | ⟨g, h1, _, h⟩
  · exact h.block b hb (by simp)
  · exact h.block b hb (by rw [← h1]; exact Ne.symm hne)
theorem Upon.size {w w' : World} {v v' : Value} (h : Upon w w' v v') : w.heap.size ≤ w'.heap.size := by rcases h with ⟨_, h⟩ | ⟨g, _, _, h⟩ <;> exact h.size
theorem Upon.same {w w' : World} {v v' : Value} (h : Upon w w' v v') : w'.os = w.os ∧ w'.tape = w.tape ∧ w'.output = w.output := by rcases h with ⟨_, h⟩ | ⟨g, _, _, h⟩ <;> exact ⟨h.os, h.tape, h.output⟩
theorem Upon.loc {w w' : World} {v v' : Value} (h : Upon w w' v v') : ∀ b, v'.ownBlock = some b → v.ownBlock = some b ∨ b = w.heap.size := fun b hb => by
  rcases h with ⟨e, _⟩ | ⟨g, e1, e2, _⟩
  · rw [e] at hb; exact .inr (Option.some.inj hb).symm
  · rw [e2] at hb; rw [e1]; exact .inl hb
theorem run_appendC {P : Program} (w : World) (t ty e : TypeId) (i : TypeInfo) (z : Value) (size bytes : Nat) (ht : P.underlying t = some (.slice e)) (hi : P.info? e = some i) (hz : i.zero = some z) (hsize : i.size = size) (hby : i.bytes = bytes) (hzs : z.cells.size = size) (hsz : 0 < size)
    (v : Value) (n : Nat) (xs : List Value) (hown : w.ownsRow 0 e size v n xs) (a : Addr) (m c : Nat) (news : List Value) (hl : news.length = m * size) (hm : 0 < m) (hnews : ∀ j u, news[j]? = some u → w.cell? (a.add j) = some u) (h1 : ∀ u ∈ news, u.oneCell' = true) (h63 : n + m ≤ maxLen) (hbytes : ((n + m) + (n + m) / 4 + 192) * bytes ≤ 281474976710656) :
    ∃ v' w', (Builtin.append_ #[t, t] ty #[v, .slice (some a) m c]).run P w = .ok v' w' ∧ w'.ownsRow 0 e size v' (n + m) (xs ++ news) ∧ Upon w w' v v' := by
  obtain ⟨v', w', hr, ho, hg, -⟩ := run_append_own_wide (P := P) w 0 t ty e i z size bytes ht hi hz hsize hby hzs hsz v n xs hown a m c news hl hnews h1 h63 hbytes (Nat.zero_le _)
  refine ⟨v', w', hr, ho, ?_⟩
  have h63' : n + m ≤ 9223372036854775807 := by simp only [maxLen] at h63; omega
  subst hsize
  rcases hown.2 with ⟨rfl, rfl⟩ | ⟨g, cap, cur, rfl, hbg, hgc, hnc, hcm, hcs, htake⟩
  · have hr2 := run_append_nil (P := P) w t ty e i z ht hi hz a m c news hl hnews hm (by omega) (by
      rw [hby]
      exact Nat.le_trans (Nat.mul_le_mul_right _ (by omega)) hbytes)
    rw [hr] at hr2
    injection hr2 with e1 e2
    subst e1 e2
    exact .inl ⟨rfl, ⟨rfl, rfl, rfl, by simp, fun k hk _ => Go.heap_alloc_old w.drew _ hk⟩⟩
  · by_cases hroom : n + m ≤ cap
    · have hr2 := run_append_room (P := P) w t ty e i ht hi g n cap cur hgc a m c news hl hnews h1 hroom (by rw [hl, hcs, ← Nat.add_mul]; exact Nat.mul_le_mul_right _ hroom)
      rw [hr] at hr2
      injection hr2 with e1 e2
      exact .inr ⟨g, rfl, by rw [e1]; rfl, hg⟩
    · have holds : ∀ j u, xs[j]? = some u → w.cell? ((⟨g, 0, none⟩ : Addr).add j) = some u := hown.cells (g := g) rfl
      have hr2 := run_append_grow (P := P) w t ty e i z ht hi hz ⟨g, 0, none⟩ n cap xs hown.1 holds a m c news hl hnews (by omega) (by omega) (by rw [hby]; exact growslice_fits_wide (by omega) hbytes)
      rw [hr] at hr2
      injection hr2 with e1 e2
      subst e1 e2
      exact .inl ⟨rfl, ⟨rfl, rfl, rfl, by simp, fun k hk _ => Go.heap_alloc_old w.drew _ hk⟩⟩
theorem wpList_appendC {P : Program} (w : World) {ops : Array Oper} {rest : List Oper} {o : Oper} {a : Act} {Q : Exit → Act → World → Prop} (hgd : o.guard = none) (s x : Operand) (t : TypeId)
    (ho : o.op = .call { callee := .builtin .append, args := #[s, x], argTypes := #[t, t] })
    (e : TypeId) (i : TypeInfo) (z : Value) (size bytes : Nat) (ht : P.underlying t = some (.slice e)) (hi : P.info? e = some i) (hz : i.zero = some z) (hsize : i.size = size) (hby : i.bytes = bytes) (hzs : z.cells.size = size) (hsz : 0 < size)
    (v : Value) (n : Nat) (xs : List Value) (hs : a.eval s = v) (hown : w.ownsRow 0 e size v n xs) (ad : Addr) (m c : Nat) (news : List Value) (hx : a.eval x = .slice (some ad) m c) (hl : news.length = m * size) (hm : 0 < m) (hnews : ∀ j u, news[j]? = some u → w.cell? (ad.add j) = some u) (h1 : ∀ u ∈ news, u.oneCell' = true) (h63 : n + m ≤ maxLen) (hbytes : ((n + m) + (n + m) / 4 + 192) * bytes ≤ 281474976710656)
    (h : ∀ v' w', w'.ownsRow 0 e size v' (n + m) (xs ++ news) → Upon w w' v v' → wpList P ops Q rest (a.put o.dst v') w') :
    wpList P ops Q (o :: rest) a w := by
  refine wpList_plain hgd fun K hK => ?_
  obtain ⟨v', w', hr, h2, h3⟩ := run_appendC (P := P) w t o.type e i z size bytes ht hi hz hsize hby hzs hsz v n xs hown ad m c news hl hm hnews h1 h63 hbytes
  unfold Oper.wp execOp
  simp only [ho, resolve, invoke, builtin, Sem.run_bind, Sem.run_pure, Result.andThen_ok, List.map_toArray, List.map_cons, List.map_nil, hs, hx, hr]
  exact hK _ _ (h v' w' h2 h3)
end
def dflat (D : List Sup) : List Value := D.flatMap (fun s => s.row.toList)
theorem dflat_len : ∀ D : List Sup, (dflat D).length = D.length * 10
  | [] => rfl
  | s :: r => by
    have := dflat_len r
    simp only [dflat, List.flatMap_cons, List.length_append, List.length_cons] at *
    rw [this]
    simp [Sup.row]
    omega
theorem dflat_get : ∀ {D : List Sup} {i : Nat} {s : Sup} (h : D[i]? = some s) {f : Nat} (hf : f < 10), (dflat D)[i * 10 + f]? = s.row[f]?
  | [], i, s, h, f, hf => by simp at h
  | a :: r, 0, s, h, f, hf => by
    have e : a = s := by simpa using h
    subst e
    simp only [dflat, List.flatMap_cons]
    rw [List.getElem?_append_left (by simp [Sup.row]; omega)]
    simp
  | a :: r, i + 1, s, h, f, hf => by
    have hl : a.row.toList.length = 10 := rfl
    simp only [dflat, List.flatMap_cons]
    rw [List.getElem?_append_right (by rw [hl]; omega), hl]
    have := dflat_get (D := r) (i := i) (s := s) (by simpa using h) hf
    rw [← this]
    show (dflat r)[_]? = _
    congr 1
    omega
theorem dflat_snoc (D : List Sup) (s : Sup) : dflat (D ++ [s]) = dflat D ++ s.row.toList := by
  unfold dflat
  rw [List.flatMap_append]
  simp
theorem info_super : (Tryd.prog.info? 27).map (fun i => (i.zero, i.size, i.bytes)) = some (some (.agg (Sup.row ⟨0, 0, 0, 0, 0, 0, 0, 0, 0, 0⟩)), 10, 80) := by kernel_rfl
theorem mrowKept {w w' : World} {base c : Nat} {e : TypeId} {v : Value} {n : Nat} {xs : List Value} (h : w.ownsRow base e c v n xs) (hk : ∀ g, v.ownBlock = some g → w'.heap[g]? = w.heap[g]?) : w'.ownsRow base e c v n xs := by
  refine ⟨h.1, ?_⟩
  rcases h.2 with h0 | ⟨g, cap, cur, rfl, h1, hg, r⟩
  · exact .inl h0
  · exact .inr ⟨g, cap, cur, rfl, h1, by rw [hk g rfl]; exact hg, r⟩
theorem mrowForm {w : World} {base c : Nat} {e : TypeId} {v : Value} {n : Nat} {xs : List Value} (h : w.ownsRow base e c v n xs) : ∃ a cap, v = .slice a n cap ∧ n ≤ cap ∧ cap ≤ maxLen := by
  rcases h.2 with ⟨rfl, rfl⟩ | ⟨g, cap, cur, rfl, _, _, h1, h2, _⟩
  · exact ⟨_, _, rfl, Nat.le_refl _, Nat.zero_le _⟩
  · exact ⟨_, _, rfl, h1, h2⟩
/-- the law in its run -/
structure TW (w wr : World) (fs s : Sup) (sb : Nat) (L : K.Lay) (S : K.St) (dv : Value) (D : List Sup) : Prop where
  fb : wr.heap[w.heap.size]? = some (.cells fs.row 27 (0, 0))
  sx : wr.heap[sb]? = some (.cells s.row 27 (0, 0))
  rp : K.Rep wr L S
  dn : wr.ownsRow 0 27 10 dv D.length (dflat D)
  dl : ∀ g, dv.ownBlock = some g → w.heap.size + 1 ≤ g
  be : Below w.heap.size w wr
  lu : ∀ b, L.U b → w.heap.size + 1 ≤ b
  su : ¬ L.U sb
  du : ∀ g, dv.ownBlock = some g → ¬ L.U g ∧ g ≠ sb
  sl : w.heap.size + 1 ≤ sb
section
variable {w wr y : World} {fs s s' : Sup} {sb : Nat} {L : K.Lay} {S S' : K.St} {dv : Value} {D : List Sup}
theorem TW.below (h : TW w wr fs s sb L S dv D) (hb : Below wr.heap.size wr y) : TW w y fs s sb L S dv D :=
  ⟨(hb.block _ (Array.getElem?_eq_some_iff.1 h.fb).1).trans h.fb, (hb.block _ (Array.getElem?_eq_some_iff.1 h.sx).1).trans h.sx, h.rp.below hb, mrowKept h.dn fun g e => hb.block g (h.dn.lt g e).2, h.dl, h.be.trans (hb.mono h.be.size), h.lu, h.su, h.du, h.sl⟩
theorem TW.grow {U' : Nat → Prop} (h : TW w wr fs s sb L S dv D) (hR : K.Rep y { L with U := U' } S') (hg : K.Grow wr y L.U U') : TW w y fs s sb { L with U := U' } S' dv D := by
  have hf := (Array.getElem?_eq_some_iff.1 h.fb).1
  have hs := (Array.getElem?_eq_some_iff.1 h.sx).1
  have hw := h.be.size
  refine ⟨(hg.keep _ hf fun e => ?_).trans h.fb, (hg.keep _ hs h.su).trans h.sx, hR, mrowKept h.dn fun g e => hg.keep g (h.dn.lt g e).2 (h.du g e).1, h.dl, ?_, fun b e => ?_, fun e => h.su (hg.new _ hs e), fun g e => ⟨fun e2 => (h.du g e).1 (hg.new g (h.dn.lt g e).2 e2), (h.du g e).2⟩, h.sl⟩
  · have := h.lu _ e; omega
  · refine h.be.trans ⟨hg.os, hg.tape, hg.output, hg.size, fun k hk => hg.keep k (by omega) fun e => ?_⟩
    have := h.lu k e; omega
  · by_cases hb : b < wr.heap.size
    · exact h.lu b (hg.new b hb e)
    · omega
theorem TW.set (h : TW w wr fs s sb L S dv D) (hk : ∀ b, b ≠ sb → y.heap[b]? = wr.heap[b]?) (hz : y.heap.size = wr.heap.size) (ho : y.os = wr.os) (ht : y.tape = wr.tape) (hu : y.output = wr.output) (hx : y.heap[sb]? = some (.cells s'.row 27 (0, 0))) : TW w y fs s' sb L S dv D := by
  have hsl := h.sl
  refine ⟨(hk _ (by omega)).trans h.fb, hx, h.rp.kept (fun b e => hk b fun e2 => h.su (e2 ▸ e)) (by omega), mrowKept h.dn fun g e => hk g (h.du g e).2, h.dl, h.be.trans ⟨ho, ht, hu, by omega, fun k hkk => hk k (by omega)⟩, h.lu, h.su, h.du, h.sl⟩
theorem TW.push {o : Obj} {v' : Value} (h : TW w wr fs s sb L S dv D) (q1 : y.ownsRow 0 27 10 v' (D.length + 1) (dflat D ++ s.row.toList)) (q2 : Upon (wr.alloc o) y dv v') : TW w y fs s sb L S v' (D ++ [s]) := by
  have hf := (Array.getElem?_eq_some_iff.1 h.fb).1
  have hs := (Array.getElem?_eq_some_iff.1 h.sx).1
  have hw := h.be.size
  have hk : ∀ b, b < wr.heap.size → dv.ownBlock ≠ some b → y.heap[b]? = wr.heap[b]? := fun b hb hne => by
    rw [q2.block b (by rw [World.size_alloc]; omega) hne]
    exact Below.heap_alloc _ _ _ hb
  have hys : wr.heap.size ≤ y.heap.size := by have := q2.size; rw [World.size_alloc] at this; omega
  have hvb : ∀ g, v'.ownBlock = some g → dv.ownBlock = some g ∨ wr.heap.size ≤ g := fun g e => by
    rcases q2.loc g e with e | e
    · exact .inl e
    · rw [World.size_alloc] at e; exact .inr (by omega)
  obtain ⟨o1, o2, o3⟩ := q2.same
  refine ⟨(hk _ hf fun e => by have := h.dl _ e; omega).trans h.fb, (hk _ hs fun e => (h.du _ e).2 rfl).trans h.sx, h.rp.kept (fun b e => hk b (h.rp.uLt b e) fun e2 => (h.du b e2).1 e) hys, by rw [dflat_snoc, List.length_append]; exact q1, fun g e => ?_, ?_, h.lu, h.su, fun g e => ?_, h.sl⟩
  · rcases hvb g e with e2 | e2
    · exact h.dl g e2
    · omega
  · exact h.be.trans ⟨o1, o2, o3, hys, fun k hkk => hk k (by omega) fun e => by have := h.dl k e; omega⟩
  · rcases hvb g e with e2 | e2
    · exact h.du g e2
    · exact ⟨fun e3 => by have := h.rp.uLt g e3; omega, by omega⟩
end
end Go.Proofs.YtepgiomgkgfioaaDoor
namespace Go.Proofs.YtepgiomgkgfioaaDoor
open Go.RowKit
set_option linter.unusedVariables false
set_option linter.unusedSimpArgs false
set_option maxRecDepth 20000

theorem rise_of {D : List Sup} {z q : Nat} (hok : ∀ s ∈ D, s.Ok ∧ s.size = (z : Int)) (hsq : ∀ j (h : j < D.length), D[j].seq = q + j) : Rise D z :=
  ⟨hok, fun j h => by rw [hsq j (by omega), hsq (j + 1) h]; omega⟩
/-- bytes that were read -/
structure Rdd (y : World) (U : Nat → Prop) (v : Value) (l : List Nat) : Prop where
  b : BSl y v l
  u : ∀ g, v.ownBlock = some g → ¬ U g ∧ g < y.heap.size
theorem Rdd.grow {y y' : World} {U : Nat → Prop} {v : Value} {l : List Nat} (h : Rdd y U v l) (hg : K.Grow y y' U U) : Rdd y' U v l := by
  refine ⟨?_, fun g e => ⟨(h.u g e).1, Nat.lt_of_lt_of_le (h.u g e).2 hg.size⟩⟩
  obtain ⟨a, cap, rfl, h1, h2, h3, h4, h5⟩ := h.b
  refine ⟨a, cap, rfl, h1, h2, h3, h4, fun hp => ?_⟩
  obtain ⟨b, off, rfl, hc⟩ := h5 hp
  refine ⟨b, off, rfl, fun i hi => ?_⟩
  rw [← hc i hi]
  exact World.cell?_of_block (hg.keep b (h.u b rfl).2 (h.u b rfl).1)
def RdP (w wr : World) (fs s : Sup) (sb : Nat) (L : K.Lay) (E : Nat → Option (List Nat)) (dv : Value) (D : List Sup) (k : Nat) (e : Ending) (y : World) : Prop :=
  ∃ v u S', e = .returned (.tuple #[v, u]) ∧ TW w y fs s sb L S' dv D ∧ TC S' E ∧ Rdd y L.U v (rdO (E k)) ∧ K.Grow wr y L.U L.U
theorem read_tw {w wr : World} {fs s : Sup} {sb : Nat} {L : K.Lay} {S : K.St} {dv : Value} {D : List Sup} {E : Nat → Option (List Nat)} (h : TW w wr fs s sb L S dv D) (hc : TC S E) {k : Nat} (hk : k < 2) :
    Calls Tryd.prog 11 #[.pointer (some ⟨L.p, 0, none⟩), .int .i64 (k : Int)] wr fun e y => RdP w wr fs s sb L E dv D k e y := by
  refine (K.Read_any h.rp (k : Int)).mono ?_
  rintro e y ⟨v, u, rfl, -, h1, h2, hr, hg⟩
  have hre := hc.rerr hk
  have hv := hc.val hk
  rw [Int.toNat_natCast, hv] at h1
  refine ⟨v, u, S.read (k : Int), rfl, h.grow (U' := L.U) hr hg, hc.read _, ?_, hg⟩
  cases hE : E k with
  | none =>
    rw [hre, if_pos hE] at h2
    obtain rfl := h2 (by decide)
    exact ⟨⟨none, 0, rfl, Nat.le_refl _, by unfold maxLen; omega, fun _ => rfl, by simp [rdO], fun e => by simp [rdO] at e⟩, fun g e => by simp [Value.ownBlock, K.nilS] at e⟩
  | some l =>
    rw [hre, if_neg (by simp [hE])] at h1
    obtain ⟨l', e', g, rfl, hgl, hp, hu⟩ := h1 rfl
    rw [hE] at e'
    obtain rfl := Option.some.inj e'
    exact ⟨hp.bsl, fun g' e => by
      simp [Value.ownBlock] at e
      subst e
      exact ⟨hu, (Array.getElem?_eq_some_iff.1 hp.1).1⟩⟩
theorem crash_tw {w wr : World} {fs s : Sup} {sb : Nat} {L : K.Lay} {S : K.St} {dv : Value} {D : List Sup} {z i : Nat} {E : List (List Nat)} {f0 : Int} (h : TW w wr fs s sb L S dv D) (hti : TI S z E i f0) {pv : Value} {ps : List Nat} (hp : BSl w pv ps) :
    Calls Tryd.prog 9 #[.pointer (some ⟨L.p, 0, none⟩), pv] wr fun e y => e = .returned (.tuple #[]) ∧ ∃ S', TW w y fs s sb L S' dv D ∧ TC S' (fun k => some (lastE z E k)) := by
  have hv : K.BSl wr pv ps := hp.below h.be
  refine (K.Crash_any h.rp hv (fun hpl g e => ?_) (fun k => by rw [hti.ca k]; decide)).mono ?_
  · intro hu
    have := h.lu g hu
    obtain ⟨a, cap, rfl, -, -, -, -, h5⟩ := hp
    obtain ⟨b, off, rfl, hc⟩ := h5 hpl
    have hlt : b < w.heap.size := World.block_lt_of_cell? w _ (hc 0 hpl)
    simp [K.blockOf] at e
    subst e
    omega
  · rintro e y ⟨rfl, hr, hg⟩
    exact ⟨rfl, _, h.grow (U' := L.U) hr hg, hti.crash ps⟩
theorem spoil_tw {w wr : World} {fs s : Sup} {sb : Nat} {L : K.Lay} {S : K.St} {dv : Value} {D : List Sup} {E : Nat → Option (List Nat)} (h : TW w wr fs s sb L S dv D) (hc : TC S E) {k : Nat} (hk : k < 2) :
    Calls Tryd.prog 10 #[.pointer (some ⟨L.p, 0, none⟩), .int .i64 (k : Int)] wr fun e y => e = .returned .nilIface ∧ ∃ U' S', TW w y fs s sb { L with U := U' } S' dv D ∧ TC S' (fun j => if j = k then none else E j) := by
  refine (K.Spoil_any h.rp (k : Int)).mono ?_
  rintro e y ⟨u, U', rfl, herr, hr, hg⟩
  obtain ⟨h1, h2⟩ := hc.spoil hk
  rw [h1] at herr
  have hu : u = .nilIface := by
    rcases herr with ⟨-, h⟩ | ⟨h, -⟩
    · exact h
    · exact absurd rfl h
  subst hu
  exact ⟨rfl, U', _, h.grow hr hg, h2⟩
theorem TW.doneAt {w wr : World} {fs s : Sup} {sb : Nat} {L : K.Lay} {S : K.St} {dv : Value} {D : List Sup} (h : TW w wr fs s sb L S dv D) {j : Nat} (hj : j < D.length) : ∃ g cap, dv = .slice (some ⟨g, 0, none⟩) D.length cap ∧ D.length ≤ cap ∧ cap ≤ maxLen ∧ ∀ f, f < 10 → wr.cell? ⟨g, j * 10 + f, none⟩ = D[j].row[f]? := by
  have h' := h.dn
  rcases h.dn.2 with ⟨_, e⟩ | ⟨g, cap, cur, rfl, _, hg, h1, h2, _⟩
  · omega
  · refine ⟨g, cap, rfl, h1, h2, fun f hf => ?_⟩
    rw [h'.cellAt (g := g) (j * 10 + f) (by omega)]
    exact dflat_get (List.getElem?_eq_getElem hj) hf
end Go.Proofs.YtepgiomgkgfioaaDoor
namespace Go.Proofs.YtepgiomgkgfioaaDoor
open Go.RowKit
set_option linter.unusedVariables false
set_option linter.unusedSimpArgs false
set_option maxRecDepth 20000

section
variable {w wr y : World} {fs s : Sup} {sb : Nat} {L : K.Lay} {S : K.St} {dv : Value} {D : List Sup}
theorem choose_tw (h : TW w wr fs s sb L S dv D) {v0 v1 : Value} {l0 l1 : List Nat} (r0 : Rdd wr L.U v0 l0) (r1 : Rdd wr L.U v1 l1) (hT : Tabs w) {r : Sup × Int × Int} (hr : cho (uns l0) (uns l1) = r) : Calls Tryd.prog 12 #[v0, v1] wr fun e y => e = .returned (.tuple #[r.1.val, .int .i64 r.2.1, .int .i64 r.2.2]) ∧ TW w y fs s sb L S dv D := by
  refine (choose_any wr v0 v1 l0 l1 r0.b r1.b (hT.below h.be)).mono ?_
  rintro e y ⟨he, hb⟩
  rw [hr] at he
  exact ⟨he, h.below hb⟩
/-- the two slots, read one after the other -/
def Slots (w wr : World) (fs s : Sup) (sb : Nat) (L : K.Lay) (E : Nat → Option (List Nat)) (dv : Value) (D : List Sup) (v0 : Value) : Prop := ∃ S, TW w wr fs s sb L S dv D ∧ TC S E ∧ Rdd wr L.U v0 (rdO (E 0))
def Slots2 (w wr : World) (fs s : Sup) (sb : Nat) (L : K.Lay) (E : Nat → Option (List Nat)) (dv : Value) (D : List Sup) (v0 v1 : Value) : Prop := ∃ S, TW w wr fs s sb L S dv D ∧ Rdd wr L.U v0 (rdO (E 0)) ∧ Rdd wr L.U v1 (rdO (E 1))
theorem read_0 {E : Nat → Option (List Nat)} (h : ∃ S, TW w wr fs s sb L S dv D ∧ TC S E) : Calls Tryd.prog 11 #[.pointer (some ⟨L.p, 0, none⟩), .int .i64 0] wr fun e y => ∃ v u, e = .returned (.tuple #[v, u]) ∧ Slots w y fs s sb L E dv D v := by
  obtain ⟨S, h1, h2⟩ := h
  refine (read_tw (k := 0) h1 h2 (by decide)).mono ?_
  rintro e y ⟨v, u, S', rfl, h3, h4, h5, h6⟩
  exact ⟨v, u, rfl, S', h3, h4, h5⟩
theorem read_1 {E : Nat → Option (List Nat)} {v0 : Value} (h : Slots w wr fs s sb L E dv D v0) : Calls Tryd.prog 11 #[.pointer (some ⟨L.p, 0, none⟩), .int .i64 1] wr fun e y => ∃ v u, e = .returned (.tuple #[v, u]) ∧ Slots2 w y fs s sb L E dv D v0 v := by
  obtain ⟨S, h1, h2, h0⟩ := h
  refine (read_tw (k := 1) h1 h2 (by decide)).mono ?_
  rintro e y ⟨v, u, S', rfl, h3, h4, h5, h6⟩
  exact ⟨v, u, rfl, S', h3, h0.grow h6, h5⟩
theorem choose_2 {E : Nat → Option (List Nat)} {v0 v1 : Value} (h : Slots2 w wr fs s sb L E dv D v0 v1) (hT : Tabs w) {r : Sup × Int × Int} (hr : cho (uns (rdO (E 0))) (uns (rdO (E 1))) = r) : Calls Tryd.prog 12 #[v0, v1] wr fun e y => e = .returned (.tuple #[r.1.val, .int .i64 r.2.1, .int .i64 r.2.2]) ∧ ∃ S, TW w y fs s sb L S dv D := by
  obtain ⟨S, h1, h2, h3⟩ := h
  refine (choose_tw h1 h2 h3 hT hr).mono ?_
  rintro e y ⟨he, h4⟩
  exact ⟨he, S, h4⟩
theorem TW.lastAt {g n cap : Nat} (h : TW w wr fs s sb L S (.slice (some ⟨g, 0, none⟩) n cap) D) {j : Nat} (hj : j < D.length) {t : Sup} (ht : D[j] = t) (o : Obj) : ∀ f, f < 10 → (wr.alloc o).cell? ⟨g, j * 10 + f, none⟩ = t.row[f]? := fun f hf => by
  have hn := h.dn.lt g rfl
  have h2 := h.below ((Below.refl _ _).alloc (Nat.le_refl _) o)
  obtain ⟨g', cap', e, -, -, hc⟩ := h2.doneAt hj
  simp only [Value.slice.injEq, Option.some.injEq, Addr.mk.injEq] at e
  obtain ⟨⟨rfl, -⟩, -⟩ := e
  rw [hc f hf, ht]
theorem Rise.at {z : Nat} (h : Rise D z) {d : Nat} (hd : d < D.length) : D[d].Ok := (h.ok _ (List.getElem_mem hd)).1
end
end Go.Proofs.YtepgiomgkgfioaaDoor
namespace Go.Proofs.YtepgiomgkgfioaaDoor
open Go.ChangeShapes Go.WideShapes Go.ChangeAt Go.RowKit
open Num
set_option linter.unusedVariables false
set_option maxRecDepth 20000

theorem own : ownKnob Tryd.prog.godebug = none := by kernel_rfl
theorem laidOut : laidOutB Tryd.prog = true := by kernel_rfl
theorem gH : Tryd.prog.globalNamed "replica/digest.firstState" = some 0 := by kernel_rfl
theorem gK : Tryd.prog.globalNamed "replica/digest.roundConstants" = some 1 := by kernel_rfl
theorem gHty : (Tryd.prog.globals[0]?).map (·.type) = some 87 := by kernel_rfl
theorem gKty : (Tryd.prog.globals[1]?).map (·.type) = some 102 := by kernel_rfl
theorem cellsS : Tryd.prog.cellsOf 87 = 8 := by kernel_rfl
theorem cellsW : Tryd.prog.cellsOf 102 = 64 := by kernel_rfl
theorem cells32 : Tryd.prog.cellsOf 25 = 1 := by kernel_rfl

def listed : List (String × DataW Unit) := [("replica/digest.firstState", Rows.laid_replica_digest_firstState), ("replica/digest.roundConstants", Rows.laid_replica_digest_roundConstants)]

theorem tab_of_is {W : World} {name : String} {g : Nat} {l : List Nat} (hg : Tryd.prog.globalNamed name = some g) (h : Lib.TabIs Tryd.prog W name .u32 (l.map fun n : Nat => (n : Int))) : Tab W g l := by
  intro i hi
  rw [h.cell hg i (by simpa using hi)]
  simp [List.getD, hi]

/-- what the rows' list gives: the two tables -/
theorem tabs_of_laid {W : World} (h : laidMetH Tryd.prog listed W) : Tabs W := by
  have h' : laidMet Tryd.prog [("replica/digest.firstState", Lib.tabData .u32 (H0.map fun n : Nat => (n : Int))), ("replica/digest.roundConstants", Lib.tabData .u32 (Ks.map fun n : Nat => (n : Int)))] W := h
  have h1 := Lib.tabIs_of_head gH gHty Tryd.underlying87 Tryd.underlying25 cells32 cellsS h'
  obtain ⟨ps, ⟨g', t', cs, fuel, p, q, hg', ht', hvar, hd, ⟨g2, t2, cs2, fuel2, p2, q2, hg2, ht2, hvar2, hd2, _⟩, _⟩, _⟩ := h'
  obtain rfl := Option.some.inj (gK.symm.trans hg2)
  obtain rfl := Option.some.inj (gKty.symm.trans ht2)
  have h2 : Lib.TabIs Tryd.prog W "replica/digest.roundConstants" .u32 (Ks.map fun n : Nat => (n : Int)) := by
    unfold Lib.TabIs
    rw [hvar2, ← Lib.cells_of_tab Tryd.underlying102 Tryd.underlying25 cells32 cellsW hd2]
  exact ⟨tab_of_is gH h1, tab_of_is gK h2⟩

def relay (cs : List Value) : Obj → Obj
  | .cells _ t frozen => .cells cs.toArray t frozen
  | o => o
/-- a world for the witness: the settled one, with the two tables in it -/
def laidIn (w : World) : World := { w with heap := (w.heap.modify 0 (relay (H0.map wordV))).modify 1 (relay (Ks.map wordV)) }
end Go.Proofs.YtepgiomgkgfioaaDoor
namespace Go.Proofs.YtepgiomgkgfioaaDoor
open Go.ChangeShapes Go.WideShapes Go.ChangeAt Go.RowKit
open Num
set_option linter.unusedVariables false
set_option maxRecDepth 20000

def IsRow (k : IntKind) (w : World) (a : Option Addr) (len cap : Nat) (zs : List Int) : Prop :=
  (a = none ∧ len = 0 ∧ cap = 0 ∧ zs = []) ∨
  ∃ x, a = some x ∧ len ≤ cap ∧ cap ≤ maxLen ∧ zs.length = cap ∧ (∀ i, i < zs.length → w.cell? (x.add i) = some (.int k (zs.getD i 0))) ∧ ∀ n ∈ zs, (Lit.int k n).wf = true

/-- what came in, as bytes -/
theorem bsl_of_row {w : World} {a : Option Addr} {len cap : Nat} {zs : List Int} (h : IsRow .u8 w a len cap zs) : ∃ l : List Nat, l.length = len ∧ BSl w (.slice a len cap) l := by
  rcases h with ⟨rfl, rfl, rfl, rfl⟩ | ⟨x, rfl, hl, hm, hz, hcell, hwz⟩
  · exact ⟨[], rfl, none, 0, rfl, Nat.le_refl _, by unfold maxLen; omega, fun _ => rfl, by simp, by simp⟩
  · have hlen : ((zs.take len).map Int.toNat).length = len := by simp; omega
    refine ⟨(zs.take len).map Int.toNat, hlen, _, cap, by rw [hlen], by omega, hm, by simp, ?_, ?_⟩
    · intro b hb
      obtain ⟨n, hn, rfl⟩ := List.mem_map.1 hb
      have := bounds_u8 (hwz n (List.mem_of_mem_take hn))
      omega
    · intro hp
      obtain ⟨b, off, rfl, hc⟩ := ints_at hcell (by omega)
      refine ⟨b, off, rfl, fun i hi => ?_⟩
      rw [hc i (by omega)]
      have hi' : i < zs.length := by omega
      have hb := bounds_u8 (hwz zs[i] (List.getElem_mem hi'))
      have hi2 : i < len := by omega
      have e2 : ((zs.take len).map Int.toNat).getD i 0 = zs[i].toNat := by
        simp [List.getD, hi', hi2]
      have e3 : zs.getD i 0 = zs[i] := by simp [List.getD, hi']
      rw [e2, e3, Int.toNat_of_nonneg hb.1]

/-- a list of bytes that came in: what it reads as, and how long it may be -/
theorem open_bytes {H : Type} {enc : TypeId × Value → H} {W : World} {base : Nat} {v : Value} {d : DataW H} {p : List MemPlace} {ts : List TypeId} {ds : List (DataW H)} (j : Nat) (hts : ts[j]? = some 29) (hds : ds[j]? = some d)
    (hsz : (DataW.weightsEach Tryd.prog ts ds).all (· ≤ reachBytes) = true) (hok : Value.okWide Tryd.prog W .any base 29 v) (h1 : DataW.Trod enc Tryd.prog W 0 (fun _ => true) true 29 v d p) : ∃ l : List Nat, BSl W v l ∧ l.length ≤ 140737488351232 := by
  obtain ⟨a1, len1, cap1, rfl⟩ := okWide_slice Tryd.underlying29 hok
  obtain ⟨z1, w1, hr1⟩ : ∃ zs, IsRow .u8 W a1 len1 cap1 zs ∧ len1 ≤ 140737488351232 := by
    obtain ⟨fuel, hf⟩ := h1
    rcases open_ints Tryd.underlying29 Tryd.underlying5 (by kernel_rfl) hf with ⟨hcs, _⟩ | ⟨x, l, c, zs, hcs, _, hl, hm, hz, hx, hcell, hwz⟩
    · simp [Value.cells] at hcs
      obtain ⟨rfl, rfl, rfl⟩ := hcs
      exact ⟨[], .inl ⟨rfl, rfl, rfl, rfl⟩, by omega⟩
    · simp [Value.cells] at hcs
      obtain ⟨rfl, rfl, rfl⟩ := hcs
      simp only [Prod.mk.injEq] at hx
      obtain ⟨rfl, hp⟩ := hx
      have hw := sized_slice hsz (j := j) (t := 29) (e := 5) hts hds Tryd.underlying29
      rw [show Tryd.prog.bytesOf 5 = 1 from by kernel_rfl] at hw
      simp only [lits, List.length_map, List.length_take, List.length_drop, reachBytes] at hw
      simp only [if_true] at hz
      exact ⟨zs, .inr ⟨_, rfl, hl, hm, hz, hcell, hwz⟩, by omega⟩
  obtain ⟨l, hll, hb⟩ := bsl_of_row w1
  exact ⟨l, hb, by omega⟩
theorem trod_place_lt {H : Type} {enc : TypeId × Value → H} {W : World} {t : TypeId} {v : Value} {d : DataW H} {p : List MemPlace} (h1 : DataW.Trod enc Tryd.prog W 0 (fun _ => true) true t v d p) : ∀ x ∈ p, x.block < W.heap.size := by
  obtain ⟨m, hm⟩ := h1; exact DataW.trod_lt m _ _ _ hm
/-- it reads on as it did -/
theorem bytes_again {H : Type} {enc : TypeId × Value → H} {W W' : World} {v : Value} {d : DataW H} {p : List MemPlace} (h1 : DataW.Trod enc Tryd.prog W 0 (fun _ => true) true 29 v d p) (bel : Below W.heap.size W W') :
    DataW.Trod enc Tryd.prog W' 0 (fun b => decide (b < W.heap.size)) true 29 v d p := Below.trod laidOut (by kernel_rfl) (of_decide_eq_true (by kernel_rfl)) h1 bel (trod_place_lt h1)
end Go.Proofs.YtepgiomgkgfioaaDoor
namespace Go.Proofs.YtepgiomgkgfioaaDoor
open Go.RowKit
open Num
set_option linter.unusedVariables false

end Go.Proofs.YtepgiomgkgfioaaDoor
namespace Go.Proofs.YtepgiomgkgfioaaDoor
open Go.RowKit
open Num
set_option linter.unusedVariables false
set_option linter.unusedSimpArgs false

theorem HRow.count {w : World} {g L C : Nat} {q : List Nat} (h : HRow w g q L C) : w.cell? ⟨g, 72, none⟩ = some (.int .u64 (C : Int)) := by
  obtain ⟨buf, h1, _, _, h4⟩ := h
  exact row_cell72 h1 h4
theorem HRow.but {w w' : World} {g gh L C : Nat} {q : List Nat} (h : HRow w gh q L C) (hb : Below w.heap.size w w') : HRow w' gh q L C := by
  obtain ⟨buf, h1, h2, h3, h4⟩ := h
  exact ⟨buf, h1, h2, h3, heap_kept hb h4⟩

/-- a list of ints that came in -/
def ISl (w : World) (v : Value) (zs : List Int) : Prop :=
  ∃ a cap, v = .slice a zs.length cap ∧ zs.length ≤ cap ∧ cap ≤ maxLen ∧ (∀ z ∈ zs, -9223372036854775808 ≤ z ∧ z ≤ 9223372036854775807) ∧
    (0 < zs.length → ∃ b off, a = some ⟨b, off, none⟩ ∧ ∀ i, i < zs.length → w.cell? ⟨b, off + i, none⟩ = some (.int .i64 (zs.getD i 0)))
theorem ISl.below {w w' : World} {v : Value} {zs : List Int} (h : ISl w v zs) (hb : Below w.heap.size w w') : ISl w' v zs := by
  obtain ⟨a, cap, e, h1, h2, h3, h4⟩ := h
  refine ⟨a, cap, e, h1, h2, h3, fun hp => ?_⟩
  obtain ⟨b, off, ha, hc⟩ := h4 hp
  refine ⟨b, off, ha, fun i hi => ?_⟩
  rw [hb.cell (p := ⟨b, off + i, none⟩) (World.block_lt_of_cell? w _ (hc i hi))]; exact hc i hi
end Go.Proofs.YtepgiomgkgfioaaDoor
namespace Go.Proofs.YtepgiomgkgfioaaDoor
open Go.ChangeShapes Go.WideShapes Go.ChangeAt Go.RowKit
set_option linter.unusedVariables false
set_option maxRecDepth 20000

/-- a list of ints that came in -/
theorem open_intl {H : Type} {enc : TypeId × Value → H} {W : World} {base : Nat} {v : Value} {d : DataW H} {p : List MemPlace}
    (hok : Value.okWide Tryd.prog W .any base 28 v) (h1 : DataW.Trod enc Tryd.prog W 0 (fun _ => true) true 28 v d p) : ∃ zs : List Int, ISl W v zs := by
  obtain ⟨a1, len1, cap1, rfl⟩ := okWide_slice Tryd.underlying28 hok
  obtain ⟨fuel, hf⟩ := h1
  rcases open_ints Tryd.underlying28 Tryd.underlying3 (by kernel_rfl) hf with ⟨hcs, _⟩ | ⟨x, l, c, zs, hcs, _, hl, hm, hz, hx, hcell, hwz⟩
  · simp [Value.cells] at hcs
    obtain ⟨rfl, rfl, rfl⟩ := hcs
    exact ⟨[], none, 0, rfl, Nat.le_refl _, by unfold maxLen; omega, by simp, by simp⟩
  · simp [Value.cells] at hcs
    obtain ⟨rfl, rfl, rfl⟩ := hcs
    simp only [if_true] at hz
    have hlen : (zs.take len1).length = len1 := by simp; omega
    refine ⟨zs.take len1, _, cap1, by rw [hlen], by omega, hm, fun z hz' => ?_, fun hp => ?_⟩
    · have := bounds_i64 (hwz z (List.mem_of_mem_take hz'))
      omega
    · obtain ⟨b, off, rfl, hc⟩ := ints_at hcell (by omega)
      refine ⟨b, off, rfl, fun i hi => ?_⟩
      rw [hc i (by omega)]
      have hi2 : i < len1 := by omega
      simp [List.getD, hi2]
theorem intl_again {H : Type} {enc : TypeId × Value → H} {W W' : World} {v : Value} {d : DataW H} {p : List MemPlace} (h1 : DataW.Trod enc Tryd.prog W 0 (fun _ => true) true 28 v d p) (bel : Below W.heap.size W W') :
    DataW.Trod enc Tryd.prog W' 0 (fun b => decide (b < W.heap.size)) true 28 v d p := Below.trod laidOut (by kernel_rfl) (of_decide_eq_true (by kernel_rfl)) h1 bel (trod_place_lt h1)
end Go.Proofs.YtepgiomgkgfioaaDoor
namespace Go.Proofs.YtepgiomgkgfioaaDoor
open Go.RowKit
set_option linter.unusedVariables false
set_option linter.unusedSimpArgs false
set_option maxRecDepth 20000

/-- the mark that a number asks for -/
def mkM (z b : Int) : Int := if Int.tmod z (b + 1) < 0 then -(Int.tmod z (b + 1)) else Int.tmod z (b + 1)
theorem mkM_in (z : Int) {b : Int} (h : 1 ≤ b) : 0 ≤ mkM z b ∧ mkM z b ≤ b := by
  have h1 := Int.tmod_lt_of_pos z (show 0 < b + 1 by omega)
  have h2 : -(b + 1) < Int.tmod z (b + 1) := by
    have := Int.tmod_lt_of_pos (-z) (show 0 < b + 1 by omega)
    rw [Int.neg_tmod] at this
    omega
  unfold mkM
  split <;> omega
def supAt (fs : Sup) (i : Nat) (z : Int) : Sup := { fs with seq := fs.seq + i, mark := mkM z fs.blocks }
theorem supAt_ok {fs : Sup} (h : fs.Ok) {i : Nat} (hi : fs.seq + i ≤ 4611686018427387904) (z : Int) : (supAt fs i z).Ok := by
  have ho := h.ok
  have hw := h.wf
  simp only [Sup.ok, Bool.and_eq_true, decide_eq_true_eq] at ho
  obtain ⟨⟨⟨⟨⟨⟨a1, a2⟩, b1, b2⟩, c⟩, d1, d2⟩, e⟩, f1, f2⟩ := ho
  have hm := mkM_in z b1
  refine ⟨?_, ?_⟩
  · unfold Sup.ok
    rw [Bool.and_eq_true, Bool.and_eq_true, Bool.and_eq_true, Bool.and_eq_true, Bool.and_eq_true]
    exact ⟨⟨⟨⟨⟨decide_eq_true ⟨by show 1 ≤ fs.seq + i; omega, hi⟩, decide_eq_true ⟨b1, b2⟩⟩, c⟩, decide_eq_true ⟨d1, d2⟩⟩, decide_eq_true e⟩, decide_eq_true hm⟩
  · unfold Sup.Wf at hw ⊢
    simp only [supAt]
    omega
/-- the loop's own -/
def TL (w wr : World) (fs : Sup) (sb : Nat) (L0 : K.Lay) (dv : Value) (z : Nat) (i : Nat) (f0 : Int) : Prop :=
  ∃ (U : Nat → Prop) (S : K.St) (D : List Sup) (q : Nat) (m : Int), TW w wr fs { fs with seq := q, mark := m } sb { L0 with U := U } S dv D ∧ TI S z (D.map Sup.enc) i f0 ∧ (∀ s ∈ D, s.Ok ∧ s.size = (z : Int)) ∧ ∀ j (h : j < D.length), D[j].seq = fs.seq + j
theorem TW.seq {w wr : World} {fs s : Sup} {sb : Nat} {L : K.Lay} {S : K.St} {dv : Value} {D : List Sup} (h : TW w wr fs s sb L S dv D) (n : Nat) : TW w (wr.setCell ⟨sb, 0, none⟩ (.int .u64 (n : Int))) fs { s with seq := n } sb L S dv D := by
  refine h.set (fun b hb => Go.heap_setCell_other _ _ _ _ hb) (World.size_setCell _ _ _) rfl rfl rfl ?_
  have := Go.heap_setCell_same wr sb 0 _ 27 (.int .u64 (n : Int)) h.sx
  exact this
theorem TW.mark {w wr : World} {fs s : Sup} {sb : Nat} {L : K.Lay} {S : K.St} {dv : Value} {D : List Sup} (h : TW w wr fs s sb L S dv D) (x : Int) : TW w (wr.setCell ⟨sb, 9, none⟩ (.int .i64 x)) fs { s with mark := x } sb L S dv D := by
  refine h.set (fun b hb => Go.heap_setCell_other _ _ _ _ hb) (World.size_setCell _ _ _) rfl rfl rfl ?_
  have := Go.heap_setCell_same wr sb 9 _ 27 (.int .i64 x) h.sx
  exact this
theorem errIs_0 {w w' : World} {U : Nat → Prop} {v : Value} {b : Int} (h : K.ErrIs w w' U v b 0) : v = .nilIface := by
  rcases h with ⟨-, h⟩ | ⟨h, -⟩
  · exact h
  · exact absurd rfl h
theorem errIs_n {w w' : World} {U : Nat → Prop} {v : Value} {b n : Int} (h : K.ErrIs w w' U v b n) (hn : n ≠ 0) : ∃ g, v = K.errV g := by
  rcases h with ⟨h, -⟩ | ⟨-, g, h, -⟩
  · exact absurd h hn
  · exact ⟨g, h⟩
theorem cells_newR (w : World) (l : List Value) (t : TypeId) : ∀ j u, l[j]? = some u → (w.alloc (.cells l.toArray t)).cell? ((⟨w.heap.size, 0, none⟩ : Addr).add j) = some u := fun j u hu => by
  rw [Addr.add_lit, Nat.zero_add, cell_of_row _ _ _ _ _ _ (Go.heap_alloc_new w _)]
  simpa using hu
theorem TL.push {w y5 y6 : World} {fs s : Sup} {sb : Nat} {L0 : K.Lay} {U : Nat → Prop} {S : K.St} {dv v' : Value} {D : List Sup} {z i : Nat} {f0 : Int} {EN : List Nat} {o : Obj} (h : TW w y5 fs s sb { L0 with U := U } S dv D) (hti : TI S z (D.map Sup.enc ++ [EN]) (i + 1) f0) (he : s.enc = EN) (hok : ∀ s ∈ D, s.Ok ∧ s.size = (z : Int)) (hsq : ∀ j (h : j < D.length), D[j].seq = fs.seq + j) (ho : s.Ok) (y1 : y6.ownsRow 0 27 10 v' (D.length + 1) (dflat D ++ s.row.toList)) (y2 : Upon (y5.alloc o) y6 dv v') (hl : D.length = i) (hss : s = { fs with seq := s.seq, mark := s.mark } := by rfl) (hsz : s.size = (z : Int) := by rfl) (hse : s.seq = fs.seq + i := by rfl) : TL w y6 fs sb L0 v' z (i + 1) f0 := by
  refine ⟨U, S, D ++ [s], s.seq, s.mark, ?_, ?_, fun t ht => ?_, fun j hj => ?_⟩
  · rw [← hss]; exact h.push y1 y2
  · rw [List.map_append]
    show TI S z (D.map Sup.enc ++ [s.enc]) (i + 1) f0
    rw [he]
    exact hti
  · rcases List.mem_append.1 ht with e | e
    · exact hok t e
    · simp only [List.mem_singleton] at e; subst e; exact ⟨ho, hsz⟩
  · by_cases hjd : j < D.length
    · rw [List.getElem_append_left hjd]; exact hsq j hjd
    · have hje : j = D.length := by simp at hj; omega
      subst hje
      rw [List.getElem_append_right (by omega)]
      simp only [Nat.sub_self, List.getElem_cons_zero]
      rw [hse, hl]
theorem TL.start {w y2 y3 : World} {fs : Sup} {L0 : K.Lay} {z : Nat} {f : Int} (hb : Below w.heap.size w y2) (hrep : K.Rep y3 L0 ((K.St.fresh 2 z (fun _ => K.zeros z)).fused f)) (hg : K.Grow y2 y3 L0.U L0.U) (hr : y2.heap[w.heap.size]? = some (.cells fs.row 27 (0, 0))) (hu : ∀ b, L0.U b → w.heap.size + 1 ≤ b) : TL w (y3.alloc (.cells fs.row 27)) fs y3.heap.size L0 (.slice none 0 0) z 0 (if f < -1 then -1 else f) := by
  have h0 := (Array.getElem?_eq_some_iff.1 hr).1
  have hs := hg.size
  have hr3 : y3.heap[w.heap.size]? = some (.cells fs.row 27 (0, 0)) := (hg.keep _ h0 fun e => by have := hu _ e; omega).trans hr
  have hb3 : Below w.heap.size w y3 := hb.trans ⟨hg.os, hg.tape, hg.output, hg.size, fun k hk => hg.keep k (by omega) fun e => by have := hu k e; omega⟩
  refine ⟨L0.U, _, [], fs.seq, fs.mark, ⟨(Below.heap_alloc _ _ _ (by omega)).trans hr3, Go.heap_alloc_new _ _, hrep.alloc _, ⟨rfl, .inl ⟨rfl, rfl⟩⟩, fun g e => by simp [Value.ownBlock] at e, hb3.alloc (by have := hb3.size; omega) _, hu, fun e => by have := hrep.uLt _ e; omega, fun g e => by simp [Value.ownBlock] at e, by omega⟩, TI.start z f, by simp, fun j h => by simp at h⟩
set_option maxHeartbeats 16000000 in
theorem turns_main (w : World) (fs : Sup) (hf : fs.Ok) (mv : Value) (ms : List Int) (hm : ISl w mv ms) (hl : ms.length ≤ 1048576) (steps : Int) (hst : -9223372036854775808 ≤ steps ∧ steps ≤ 9223372036854775807) (pv : Value) (ps : List Nat) (hp : BSl w pv ps) (sp : Bool) (hT : Tabs w) (hseq : fs.seq + ms.length ≤ 4611686018427387904) :
    Calls Tryd.prog 3 #[fs.val, mv, .int .i64 steps, pv, .bool sp] w fun e w' => e = .returned (.bool true) ∧ Below w.heap.size w w' := by
  have HLA := hide fun x => lawful_any x fs hf.wf
  rw [hf.ok] at HLA
  have hsz := hf.ok
  simp only [Sup.ok, Bool.and_eq_true, decide_eq_true_eq] at hsz
  obtain ⟨⟨⟨⟨⟨⟨hq1, hq2⟩, hb1, hb2⟩, hz0⟩, -⟩, -⟩, -⟩ := hsz
  have hz1 := okSz_cases hz0
  obtain ⟨z, hz⟩ : ∃ z : Nat, fs.size = (z : Int) := ⟨fs.size.toNat, by omega⟩
  have HNW : Hid (∀ x, Calls Tryd.prog 5 #[.int .i64 2, .int .i64 (z : Int)] x fun e w' => K.NewPost x 2 z (fun _ => K.zeros z) e w') := hide fun x => K.New_any x 2 z (by omega) (by omega) (by omega)
  have HFU := hide fun x L S (h : K.Rep x L S) => K.Fuse_any h steps hst
  have HB0 : Hid (Below w.heap.size w (w.alloc (.cells fs.row 27))) := hide ((Below.refl _ _).alloc (Nat.le_refl _) _)
  have HF := hide hf
  have HM := hide hm
  have HP := hide hp
  have HT := hide hT
  have hwf := hf.wf
  obtain ⟨ma, mc, emv, hml, hmx, -⟩ := hm
  subst emv
  unfold maxLen at hmx
  have hlw : IntKind.u64.wrap ((ms.length : Nat) : Int) = ((ms.length : Nat) : Int) := by simp [IntKind.wrap, IntKind.bits, IntKind.signed]; omega
  have hlc : ((4611686018427387904 : Int) - ((ms.length : Nat) : Int) < (fs.seq : Int)) = False := by simp; omega
  clear hf hp hT
  obtain ⟨q, b, zi, k, g0, g1, g2, g3, fl, m⟩ := fs
  dsimp only at hz hlc hq1 hq2 hb1 hb2 hseq
  subst hz
  unfold Sup.val Sup.row at HLA HB0 ⊢
  dsimp only at HLA HB0 ⊢
  go_enter Tryd.func3, Tryd.ntmps3
  go_wp2_with (first
    | (go_at_call 4; refine (HLA.out _).mono ?_; rintro e y1 ⟨rfl, hb1⟩; have HB1 := hide (HB0.out.trans (hb1.mono HB0.out.size)); have hr1 : y1.heap[w.heap.size]? = some (.cells #[.int .u64 (q : Int), .int .i64 b, .int .i64 (z : Int), .int .i64 k, .int .u64 (g0 : Int), .int .u64 (g1 : Int), .int .u64 (g2 : Int), .int .u64 (g3 : Int), .int .u32 (fl : Int), .int .i64 m] 27 (0, 0)) := (hb1.block _ (by simp)).trans (Go.heap_alloc_new w _); have x0 : y1.cell? ⟨w.heap.size, 0, none⟩ = some (.int .u64 (q : Int)) := cell_of_row _ _ _ _ _ _ hr1; have x2 : y1.cell? ⟨w.heap.size, 2, none⟩ = some (.int .i64 (z : Int)) := cell_of_row _ _ _ _ _ _ hr1; have HR1 := hide hr1; clear hr1 hb1 HLA)
    | (go_at_call 5; refine (HNW.out _).mono ?_; rintro e y2 ⟨L0, rfl, hrep, hb2, hu⟩; have HR2 := hide ((hb2.block _ (Array.getElem?_eq_some_iff.1 HR1.out).1).trans HR1.out); have HREP := hide hrep; have HB2 := hide (HB1.out.trans (hb2.mono HB1.out.size)); have HU : Hid (∀ b, L0.U b → w.heap.size + 1 ≤ b) := hide (fun b e => (by have := hu b e; have := (Array.getElem?_eq_some_iff.1 HR1.out).1; omega)); unfold K.PD; clear hrep hb2 hu HNW HR1 HB1 x0 x2)
    | (go_at_call 6; refine (HFU.out _ _ _ HREP.out).mono ?_; rintro e y3 ⟨rfl, hrep, hg, hs3⟩; have hr3 := (hg.keep _ (Array.getElem?_eq_some_iff.1 HR2.out).1 (fun e => (by have := HU.out _ e; omega))).trans HR2.out; have x0 : y3.cell? ⟨w.heap.size, 0, none⟩ = some (.int .u64 (q : Int)) := cell_of_row _ _ _ _ _ _ hr3; have x1 : y3.cell? ⟨w.heap.size, 1, none⟩ = some (.int .i64 b) := cell_of_row _ _ _ _ _ _ hr3; have x2 : y3.cell? ⟨w.heap.size, 2, none⟩ = some (.int .i64 (z : Int)) := cell_of_row _ _ _ _ _ _ hr3; have x3 : y3.cell? ⟨w.heap.size, 3, none⟩ = some (.int .i64 k) := cell_of_row _ _ _ _ _ _ hr3; have x4 : y3.cell? ⟨w.heap.size, 4, none⟩ = some (.int .u64 (g0 : Int)) := cell_of_row _ _ _ _ _ _ hr3; have x5 : y3.cell? ⟨w.heap.size, 5, none⟩ = some (.int .u64 (g1 : Int)) := cell_of_row _ _ _ _ _ _ hr3; have x6 : y3.cell? ⟨w.heap.size, 6, none⟩ = some (.int .u64 (g2 : Int)) := cell_of_row _ _ _ _ _ _ hr3; have x7 : y3.cell? ⟨w.heap.size, 7, none⟩ = some (.int .u64 (g3 : Int)) := cell_of_row _ _ _ _ _ _ hr3; have x8 : y3.cell? ⟨w.heap.size, 8, none⟩ = some (.int .u32 (fl : Int)) := cell_of_row _ _ _ _ _ _ hr3; have x9 : y3.cell? ⟨w.heap.size, 9, none⟩ = some (.int .i64 m) := cell_of_row _ _ _ _ _ _ hr3;  have HTL : Hid (TL w (y3.alloc (.cells #[.int .u64 (q : Int), .int .i64 b, .int .i64 (z : Int), .int .i64 k, .int .u64 (g0 : Int), .int .u64 (g1 : Int), .int .u64 (g2 : Int), .int .u64 (g3 : Int), .int .u32 (fl : Int), .int .i64 m] 27)) ⟨q, b, (z : Int), k, g0, g1, g2, g3, fl, m⟩ y3.heap.size L0 (.slice none 0 0) z 0 (if steps < -1 then -1 else steps)) := hide (TL.start (fs := ⟨q, b, (z : Int), k, g0, g1, g2, g3, fl, m⟩) HB2.out hrep hg HR2.out HU.out); clear hrep hg hs3 hr3 HFU HREP HR2 HB2))
  clear x0 x1 x2 x3 x4 x5 x6 x7 x8 x9
  generalize y3.heap.size = sb at *
  have hf0 : ∀ i : Nat, (((if steps < -1 then -1 else steps) < 0 ∨ (i : Int) < (if steps < -1 then -1 else steps)) ↔ (steps < 0 ∨ (i : Int) < steps)) := fun i => by split <;> omega
  generalize (if steps < -1 then -1 else steps) = f0 at *
  have HF0 := hide hf0
  clear hf0
  obtain ⟨ma', mc', ema, -, -, hmb, hmc⟩ := HM.out
  simp only [Value.slice.injEq] at ema
  obtain ⟨rfl, -, rfl⟩ := ema
  have HMB := hide hmb
  have HMC := hide hmc
  clear hmb hmc HU
  go_loopw [14, 16] (fun dv x wr => ∃ i : Nat, i ≤ ms.length ∧ x = .int .i64 (i : Int) ∧ TL w wr ⟨q, b, (z : Int), k, g0, g1, g2, g3, fl, m⟩ sb L0 dv z i f0) (fun _ x _ => ms.length - (intOf x).toNat)
  case atStart => exact ⟨0, Nat.zero_le _, rfl, HTL.out⟩
  case round =>
    clear HTL
    obtain ⟨i, hi, rfl, U, S, D, q', m', htw, hti, hok, hsq⟩ := hrel
    obtain ⟨da, dc, edv, hd1, hd2⟩ := mrowForm htw.dn
    subst edv
    unfold maxLen at hd2
    have HTW := hide htw
    have HTI := hide hti
    have HOK := hide hok
    have HSQ := hide hsq
    by_cases hlt : i < ms.length
    · obtain ⟨mb, off, rfl, hcell⟩ := HMC.out (by omega)
      have hmi := hcell i hlt
      have hmbl : mb < w.heap.size := World.block_lt_of_cell? w _ hmi
      have hmw : wr.cell? ⟨mb, off + i, none⟩ = some (.int .i64 (ms.getD i 0)) := by rw [htw.be.cell (p := ⟨mb, off + i, none⟩) hmbl]; exact hmi
      have hzb := HMB.out (ms.getD i 0) (by simp [List.getD, hlt])
      have x0 : wr.cell? ⟨w.heap.size, 0, none⟩ = some (.int .u64 (q : Int)) := cell_of_row _ _ _ _ _ _ htw.fb
      have s0 : wr.cell? ⟨sb, 0, none⟩ = some (.int .u64 (q' : Int)) := cell_of_row _ _ _ _ _ _ htw.sx
      have s1 : wr.cell? ⟨sb, 1, none⟩ = some (.int .i64 b) := cell_of_row _ _ _ _ _ _ htw.sx
      have s2 : wr.cell? ⟨sb, 2, none⟩ = some (.int .i64 (z : Int)) := cell_of_row _ _ _ _ _ _ htw.sx
      have s3 : wr.cell? ⟨sb, 3, none⟩ = some (.int .i64 k) := cell_of_row _ _ _ _ _ _ htw.sx
      have s4 : wr.cell? ⟨sb, 4, none⟩ = some (.int .u64 (g0 : Int)) := cell_of_row _ _ _ _ _ _ htw.sx
      have s5 : wr.cell? ⟨sb, 5, none⟩ = some (.int .u64 (g1 : Int)) := cell_of_row _ _ _ _ _ _ htw.sx
      have s6 : wr.cell? ⟨sb, 6, none⟩ = some (.int .u64 (g2 : Int)) := cell_of_row _ _ _ _ _ _ htw.sx
      have s7 : wr.cell? ⟨sb, 7, none⟩ = some (.int .u64 (g3 : Int)) := cell_of_row _ _ _ _ _ _ htw.sx
      have s8 : wr.cell? ⟨sb, 8, none⟩ = some (.int .u32 (fl : Int)) := cell_of_row _ _ _ _ _ _ htw.sx
      have s9 : wr.cell? ⟨sb, 9, none⟩ = some (.int .i64 m') := cell_of_row _ _ _ _ _ _ htw.sx
      have f0' : wr.frozen? ⟨sb, 0, none⟩ = false := frozen_of_row _ _ _ _ 27 htw.sx
      have f9 : wr.frozen? ⟨sb, 9, none⟩ = false := frozen_of_row _ _ _ _ 27 htw.sx
      have hsbl := htw.sl
      have ne1 : ¬ mb = sb := by omega
      have ne2 : ¬ sb = mb := by omega
      have hiw : IntKind.u64.wrap (i : Int) = (i : Int) := by simp [IntKind.wrap, IntKind.bits, IntKind.signed]; omega
      have hsum : ((q : Int) + (i : Int)) % 18446744073709551616 = ((q + i : Nat) : Int) := by omega
      have hbz : ¬ (b + 1 = 0) := by omega
      clear htw hti hok hsq hmi hcell HMC HMB
      generalize hzz : ms.getD i 0 = zz at *
      clear hzz
      have htm1 := Int.tmod_lt_of_pos zz (show 0 < b + 1 by omega)
      have htm2 : -(b + 1) < Int.tmod zz (b + 1) := by
        have := Int.tmod_lt_of_pos (-zz) (show 0 < b + 1 by omega)
        rw [Int.neg_tmod] at this
        omega
      have HT1 : Hid (TW w (wr.setCell ⟨sb, 0, none⟩ (.int .u64 ((q : Int) + (i : Int)))) ⟨q, b, (z : Int), k, g0, g1, g2, g3, fl, m⟩ (⟨q + i, b, (z : Int), k, g0, g1, g2, g3, fl, m'⟩ : Sup) sb { L0 with U := U } S (.slice da D.length dc) D) := hide (by
        have := HTW.out.seq (q + i)
        rw [show ((q + i : Nat) : Int) = (q : Int) + (i : Int) by omega] at this
        exact this)
      have HMK : Hid (mkM zz b = if Int.tmod zz (b + 1) < 0 then -(Int.tmod zz (b + 1)) else Int.tmod zz (b + 1)) := hide rfl
      have HSU : Hid (supAt ⟨q, b, (z : Int), k, g0, g1, g2, g3, fl, m⟩ i zz = (⟨q + i, b, (z : Int), k, g0, g1, g2, g3, fl, mkM zz b⟩ : Sup)) := hide rfl
      go_wp2_with fail
      have m1 : (wr.setCell ⟨sb, 0, none⟩ (.int .u64 ((q : Int) + (i : Int)))).cell? ⟨mb, off + i, none⟩ = some (.int .i64 zz) := by rw [← hmw]; exact World.cell?_of_block (Go.heap_setCell_other _ _ _ _ ne1)
      clear hmw s0 s1 s2 s3 s4 s5 s6 s7 s8 s9 f0' f9 x0 hsum hiw
      have hT1 := HT1.out
      generalize wr.setCell ⟨sb, 0, none⟩ (.int .u64 ((q : Int) + (i : Int))) = W1 at *
      have t1 : W1.cell? ⟨sb, 1, none⟩ = some (.int .i64 b) := cell_of_row _ _ _ _ _ _ hT1.sx
      have t9 : W1.cell? ⟨sb, 9, none⟩ = some (.int .i64 m') := cell_of_row _ _ _ _ _ _ hT1.sx
      have g9 : W1.frozen? ⟨sb, 9, none⟩ = false := frozen_of_row _ _ _ _ 27 hT1.sx
      clear hT1
      have htw1 : IntKind.i64.wrap (Int.tmod zz (b + 1)) = Int.tmod zz (b + 1) := by simp [IntKind.wrap, IntKind.bits, IntKind.signed]; omega
      have hwb : IntKind.i64.wrap (b + 1) = b + 1 := by simp [IntKind.wrap, IntKind.bits, IntKind.signed]; omega
      have hmod : Int.tmod (i : Int) 2 = ((i % 2 : Nat) : Int) := rfl
      have hqn : ((q + i : Nat) : Int) = (q : Int) + (i : Int) := by omega
      have HQN := hide hqn
      clear hqn
      refine wp_still_tail 8 (by kernel_rfl) (by kernel_rfl) ?_
      simp only [List.take_succ_cons, List.take_zero, List.drop_succ_cons, List.drop_zero]
      repeat still_step
      refine wpStill_nil ?_
      have HT2 : Hid (TW w (W1.setCell ⟨sb, 9, none⟩ (.int .i64 (Int.tmod zz (b + 1)))) ⟨q, b, (z : Int), k, g0, g1, g2, g3, fl, m⟩ ⟨q + i, b, (z : Int), k, g0, g1, g2, g3, fl, Int.tmod zz (b + 1)⟩ sb { L0 with U := U } S (.slice da D.length dc) D) := hide (HT1.out.mark (Int.tmod zz (b + 1)))
      have HOKI : Hid (Sup.Ok (supAt ⟨q, b, (z : Int), k, g0, g1, g2, g3, fl, m⟩ i zz)) := hide (supAt_ok HF.out (by show q + i ≤ _; omega) zz)
      have hq1 := K.ifaceEq
      have hq2 := K.nilEq
      by_cases htn : Int.tmod zz (b + 1) < 0
      · have HS : Hid (supAt ⟨q, b, (z : Int), k, g0, g1, g2, g3, fl, m⟩ i zz = ⟨q + i, b, (z : Int), k, g0, g1, g2, g3, fl, -(Int.tmod zz (b + 1))⟩) := hide (by rw [HSU.out, HMK.out, if_pos htn])
        rw [HS.out] at HOKI
        have HEL := hide (Sup.enc_len HOKI.out)
        have HT3 : Hid (TW w ((W1.setCell ⟨sb, 9, none⟩ (.int .i64 (Int.tmod zz (b + 1)))).setCell ⟨sb, 9, none⟩ (.int .i64 (-(Int.tmod zz (b + 1))))) ⟨q, b, (z : Int), k, g0, g1, g2, g3, fl, m⟩ ⟨q + i, b, (z : Int), k, g0, g1, g2, g3, fl, -(Int.tmod zz (b + 1))⟩ sb { L0 with U := U } S (.slice da D.length dc) D) := hide (HT2.out.mark (-(Int.tmod zz (b + 1))))
        have HSE : Hid (∀ y, TW w y ⟨q, b, (z : Int), k, g0, g1, g2, g3, fl, m⟩ ⟨q + i, b, (z : Int), k, g0, g1, g2, g3, fl, -(Int.tmod zz (b + 1))⟩ sb { L0 with U := U } S (.slice da D.length dc) D → Calls Tryd.prog 7 #[.agg #[.int .u64 ((q : Int) + (i : Int)), .int .i64 b, .int .i64 (z : Int), .int .i64 k, .int .u64 (g0 : Int), .int .u64 (g1 : Int), .int .u64 (g2 : Int), .int .u64 (g3 : Int), .int .u32 (fl : Int), .int .i64 (-(Int.tmod zz (b + 1)))]] y fun e w' => SealPost y ⟨q + i, b, (z : Int), k, g0, g1, g2, g3, fl, -(Int.tmod zz (b + 1))⟩ e w') := hide fun y hy => by
          have h9 := seal_yes y ⟨q + i, b, (z : Int), k, g0, g1, g2, g3, fl, -(Int.tmod zz (b + 1))⟩ HOKI.out.wf HOKI.out.ok (HT.out.below hy.be)
          unfold Sup.val Sup.row at h9
          dsimp only at h9
          rw [HQN.out] at h9
          exact h9
        unfold SealPost at HSE
        dsimp only at HSE HEL
        rw [show ((z : Int)).toNat = z from Int.toNat_natCast _] at HSE HEL
        generalize hEN : (⟨q + i, b, (z : Int), k, g0, g1, g2, g3, fl, -(Int.tmod zz (b + 1))⟩ : Sup).enc = EN at *
        have hEN' := hEN
        clear hEN
        have hng : IntKind.i64.wrap (-(Int.tmod zz (b + 1))) = -(Int.tmod zz (b + 1)) := by simp [IntKind.wrap, IntKind.bits, IntKind.signed]; omega
        have u0 : ((W1.setCell ⟨sb, 9, none⟩ (.int .i64 (Int.tmod zz (b + 1)))).setCell ⟨sb, 9, none⟩ (.int .i64 (-(Int.tmod zz (b + 1))))).cell? ⟨sb, 0, none⟩ = some (.int .u64 ((q : Int) + (i : Int))) := (by have h7 := cell_of_row _ _ 0 _ _ _ HT3.out.sx; rw [h7]; simp only [Sup.row]; rw [HQN.out]; rfl)
        have u1 : ((W1.setCell ⟨sb, 9, none⟩ (.int .i64 (Int.tmod zz (b + 1)))).setCell ⟨sb, 9, none⟩ (.int .i64 (-(Int.tmod zz (b + 1))))).cell? ⟨sb, 1, none⟩ = some (.int .i64 b) := cell_of_row _ _ _ _ _ _ HT3.out.sx
        have u2 : ((W1.setCell ⟨sb, 9, none⟩ (.int .i64 (Int.tmod zz (b + 1)))).setCell ⟨sb, 9, none⟩ (.int .i64 (-(Int.tmod zz (b + 1))))).cell? ⟨sb, 2, none⟩ = some (.int .i64 (z : Int)) := cell_of_row _ _ _ _ _ _ HT3.out.sx
        have u3 : ((W1.setCell ⟨sb, 9, none⟩ (.int .i64 (Int.tmod zz (b + 1)))).setCell ⟨sb, 9, none⟩ (.int .i64 (-(Int.tmod zz (b + 1))))).cell? ⟨sb, 3, none⟩ = some (.int .i64 k) := cell_of_row _ _ _ _ _ _ HT3.out.sx
        have u4 : ((W1.setCell ⟨sb, 9, none⟩ (.int .i64 (Int.tmod zz (b + 1)))).setCell ⟨sb, 9, none⟩ (.int .i64 (-(Int.tmod zz (b + 1))))).cell? ⟨sb, 4, none⟩ = some (.int .u64 (g0 : Int)) := cell_of_row _ _ _ _ _ _ HT3.out.sx
        have u5 : ((W1.setCell ⟨sb, 9, none⟩ (.int .i64 (Int.tmod zz (b + 1)))).setCell ⟨sb, 9, none⟩ (.int .i64 (-(Int.tmod zz (b + 1))))).cell? ⟨sb, 5, none⟩ = some (.int .u64 (g1 : Int)) := cell_of_row _ _ _ _ _ _ HT3.out.sx
        have u6 : ((W1.setCell ⟨sb, 9, none⟩ (.int .i64 (Int.tmod zz (b + 1)))).setCell ⟨sb, 9, none⟩ (.int .i64 (-(Int.tmod zz (b + 1))))).cell? ⟨sb, 6, none⟩ = some (.int .u64 (g2 : Int)) := cell_of_row _ _ _ _ _ _ HT3.out.sx
        have u7 : ((W1.setCell ⟨sb, 9, none⟩ (.int .i64 (Int.tmod zz (b + 1)))).setCell ⟨sb, 9, none⟩ (.int .i64 (-(Int.tmod zz (b + 1))))).cell? ⟨sb, 7, none⟩ = some (.int .u64 (g3 : Int)) := cell_of_row _ _ _ _ _ _ HT3.out.sx
        have u8 : ((W1.setCell ⟨sb, 9, none⟩ (.int .i64 (Int.tmod zz (b + 1)))).setCell ⟨sb, 9, none⟩ (.int .i64 (-(Int.tmod zz (b + 1))))).cell? ⟨sb, 8, none⟩ = some (.int .u32 (fl : Int)) := cell_of_row _ _ _ _ _ _ HT3.out.sx
        have u9 : ((W1.setCell ⟨sb, 9, none⟩ (.int .i64 (Int.tmod zz (b + 1)))).setCell ⟨sb, 9, none⟩ (.int .i64 (-(Int.tmod zz (b + 1))))).cell? ⟨sb, 9, none⟩ = some (.int .i64 (-(Int.tmod zz (b + 1)))) := cell_of_row _ _ _ _ _ _ HT3.out.sx
        have HEN : Hid (Sup.enc ⟨q + i, b, (z : Int), k, g0, g1, g2, g3, fl, -(Int.tmod zz (b + 1))⟩ = EN) := hide hEN'
        by_cases hrun : f0 < 0 ∨ (i : Int) < f0
        · obtain ⟨hpe, hti'⟩ := HTI.out.yes hrun HEL.out
          rw [show ((i % 2 : Nat) : Int) = (i : Int) % 2 by omega] at hpe hti'
          have HPE := hide hpe
          have HTI' := hide hti'
          clear hpe hti'
          obtain ⟨i0, hi0, hz0', hz1', hz2'⟩ := info_parts info_super
          have hdl : D.length ≤ 1048576 := by have := HTI.out.len; rw [List.length_map] at this; omega
          go_wp2_with (first
            | (go_at_call 7; refine (HSE.out _ (HT3.out.below (Below.refl _ _).drew)).mono ?_; rintro e y4 ⟨gl, rfl, hroom, hb4⟩; have HT4 := hide ((HT3.out.below (Below.refl _ _).drew).below hb4); have HBL : Hid (K.BSl y4 (.slice (some ⟨gl, 0, none⟩) z z) EN) := hide (by have hx := hroom.own.bsl; rw [HEL.out] at hx; exact hx); unfold gsl; clear hroom hb4 HSE)
            | (go_at_call 8; refine (K.Through_any HT4.out.rp ((i : Int) % 2) _ HBL.out).mono ?_; rintro e y5 ⟨u, U5, rfl, herr, hrep, hg5⟩; rw [HPE.out] at herr; obtain rfl := errIs_0 herr; have HT5 := hide (HT4.out.grow hrep hg5); have v0 : y5.cell? ⟨sb, 0, none⟩ = some (.int .u64 ((q : Int) + (i : Int))) := (by have h7 := cell_of_row _ _ 0 _ _ _ HT5.out.sx; rw [h7]; simp only [Sup.row]; rw [HQN.out]; rfl); have v1 : y5.cell? ⟨sb, 1, none⟩ = some (.int .i64 b) := cell_of_row _ _ _ _ _ _ HT5.out.sx; have v2 : y5.cell? ⟨sb, 2, none⟩ = some (.int .i64 (z : Int)) := cell_of_row _ _ _ _ _ _ HT5.out.sx; have v3 : y5.cell? ⟨sb, 3, none⟩ = some (.int .i64 k) := cell_of_row _ _ _ _ _ _ HT5.out.sx; have v4 : y5.cell? ⟨sb, 4, none⟩ = some (.int .u64 (g0 : Int)) := cell_of_row _ _ _ _ _ _ HT5.out.sx; have v5 : y5.cell? ⟨sb, 5, none⟩ = some (.int .u64 (g1 : Int)) := cell_of_row _ _ _ _ _ _ HT5.out.sx; have v6 : y5.cell? ⟨sb, 6, none⟩ = some (.int .u64 (g2 : Int)) := cell_of_row _ _ _ _ _ _ HT5.out.sx; have v7 : y5.cell? ⟨sb, 7, none⟩ = some (.int .u64 (g3 : Int)) := cell_of_row _ _ _ _ _ _ HT5.out.sx; have v8 : y5.cell? ⟨sb, 8, none⟩ = some (.int .u32 (fl : Int)) := cell_of_row _ _ _ _ _ _ HT5.out.sx; have v9 : y5.cell? ⟨sb, 9, none⟩ = some (.int .i64 (-(Int.tmod zz (b + 1)))) := cell_of_row _ _ _ _ _ _ HT5.out.sx;  clear hrep hg5; have o3 := HT5.out.dn.alloc (.cells #[.int .u64 ((q : Int) + (i : Int)), .int .i64 b, .int .i64 (z : Int), .int .i64 k, .int .u64 (g0 : Int), .int .u64 (g1 : Int), .int .u64 (g2 : Int), .int .u64 (g3 : Int), .int .u32 (fl : Int), .int .i64 (-(Int.tmod zz (b + 1)))] 27); have HPUSH := hide (fun v' y6 (y1 : y6.ownsRow 0 27 10 v' (D.length + 1) (dflat D ++ [.int .u64 ((q : Int) + (i : Int)), .int .i64 b, .int .i64 (z : Int), .int .i64 k, .int .u64 (g0 : Int), .int .u64 (g1 : Int), .int .u64 (g2 : Int), .int .u64 (g3 : Int), .int .u32 (fl : Int), .int .i64 (-(Int.tmod zz (b + 1)))])) (y2 : Upon (y5.alloc (.cells #[.int .u64 ((q : Int) + (i : Int)), .int .i64 b, .int .i64 (z : Int), .int .i64 k, .int .u64 (g0 : Int), .int .u64 (g1 : Int), .int .u64 (g2 : Int), .int .u64 (g3 : Int), .int .u32 (fl : Int), .int .i64 (-(Int.tmod zz (b + 1)))] 27)) y6 _ v') => TL.push HT5.out HTI'.out HEN.out HOK.out HSQ.out HOKI.out (by simp only [Sup.row]; rw [HQN.out]; exact y1) y2 (by have := HTI.out.rn; rw [List.length_map] at this; omega)); generalize dflat D = DF at *)
            | (at_builtin; refine wpList_appendC _ rfl (.tmp 97) (.tmp 99) 36 rfl 27 i0 (.agg (Sup.row ⟨0, 0, 0, 0, 0, 0, 0, 0, 0, 0⟩)) 10 80 Tryd.underlying36 hi0 hz0' hz1' hz2' rfl (by decide) _ _ _ rfl o3 ⟨y5.heap.size, 0, none⟩ 1 1 [.int .u64 ((q : Int) + (i : Int)), .int .i64 b, .int .i64 (z : Int), .int .i64 k, .int .u64 (g0 : Int), .int .u64 (g1 : Int), .int .u64 (g2 : Int), .int .u64 (g3 : Int), .int .u32 (fl : Int), .int .i64 (-(Int.tmod zz (b + 1)))] rfl rfl (by decide) (cells_newR _ _ _) (by simp [Value.oneCell']) (by unfold maxLen; omega) (by omega) ?_; intro v' y6 q1 q2; have HN := hide (HPUSH.out v' y6 q1 q2); clear q1 q2 HPUSH o3))
          go_roundw
          case rel => exact ⟨i + 1, by omega, by go_num, HN.out⟩
          case measure => simp [intOf]; omega
        · obtain ⟨hpe, hti'⟩ := HTI.out.no hrun HEL.out
          rw [show ((i % 2 : Nat) : Int) = (i : Int) % 2 by omega] at hpe hti'
          have HPE := hide hpe
          have HTI' := hide hti'
          have hst1 : ¬ (steps < 0 ∨ (i : Int) < steps) := fun e => hrun ((HF0.out i).2 e)
          have hst2 : (steps < 0) = False := by simp; omega
          have hst3 : ((i : Int) < steps) = False := by simp; omega
          clear hpe hti' hst1
          go_wp2_with (first
            | (go_at_call 7; refine (HSE.out _ (HT3.out.below (Below.refl _ _).drew)).mono ?_; rintro e y4 ⟨gl, rfl, hroom, hb4⟩; have HT4 := hide ((HT3.out.below (Below.refl _ _).drew).below hb4); have HBL : Hid (K.BSl y4 (.slice (some ⟨gl, 0, none⟩) z z) EN) := hide (by have hx := hroom.own.bsl; rw [HEL.out] at hx; exact hx); unfold gsl; clear hroom hb4 HSE)
            | (go_at_call 8; refine (K.Through_any HT4.out.rp ((i : Int) % 2) _ HBL.out).mono ?_; rintro e y5 ⟨u, U5, rfl, herr, hrep, hg5⟩; rw [HPE.out] at herr; obtain ⟨ge, rfl⟩ := errIs_n herr (by decide); have HN : Hid (TL w y5 ⟨q, b, (z : Int), k, g0, g1, g2, g3, fl, m⟩ sb L0 _ z (i + 1) f0) := hide ⟨U5, _, D, q + i, (-(Int.tmod zz (b + 1))), HT4.out.grow hrep hg5, HTI'.out, HOK.out, HSQ.out⟩; unfold K.errV; clear hrep hg5))
          go_roundw
          case rel => exact ⟨i + 1, by omega, by go_num, HN.out⟩
          case measure => simp [intOf]; omega
      · have HS : Hid (supAt ⟨q, b, (z : Int), k, g0, g1, g2, g3, fl, m⟩ i zz = ⟨q + i, b, (z : Int), k, g0, g1, g2, g3, fl, Int.tmod zz (b + 1)⟩) := hide (by rw [HSU.out, HMK.out, if_neg htn])
        rw [HS.out] at HOKI
        have HEL := hide (Sup.enc_len HOKI.out)
        have HT3 : Hid (TW w (W1.setCell ⟨sb, 9, none⟩ (.int .i64 (Int.tmod zz (b + 1)))) ⟨q, b, (z : Int), k, g0, g1, g2, g3, fl, m⟩ ⟨q + i, b, (z : Int), k, g0, g1, g2, g3, fl, Int.tmod zz (b + 1)⟩ sb { L0 with U := U } S (.slice da D.length dc) D) := hide HT2.out
        have HSE : Hid (∀ y, TW w y ⟨q, b, (z : Int), k, g0, g1, g2, g3, fl, m⟩ ⟨q + i, b, (z : Int), k, g0, g1, g2, g3, fl, Int.tmod zz (b + 1)⟩ sb { L0 with U := U } S (.slice da D.length dc) D → Calls Tryd.prog 7 #[.agg #[.int .u64 ((q : Int) + (i : Int)), .int .i64 b, .int .i64 (z : Int), .int .i64 k, .int .u64 (g0 : Int), .int .u64 (g1 : Int), .int .u64 (g2 : Int), .int .u64 (g3 : Int), .int .u32 (fl : Int), .int .i64 (Int.tmod zz (b + 1))]] y fun e w' => SealPost y ⟨q + i, b, (z : Int), k, g0, g1, g2, g3, fl, Int.tmod zz (b + 1)⟩ e w') := hide fun y hy => by
          have h9 := seal_yes y ⟨q + i, b, (z : Int), k, g0, g1, g2, g3, fl, Int.tmod zz (b + 1)⟩ HOKI.out.wf HOKI.out.ok (HT.out.below hy.be)
          unfold Sup.val Sup.row at h9
          dsimp only at h9
          rw [HQN.out] at h9
          exact h9
        unfold SealPost at HSE
        dsimp only at HSE HEL
        rw [show ((z : Int)).toNat = z from Int.toNat_natCast _] at HSE HEL
        generalize hEN : (⟨q + i, b, (z : Int), k, g0, g1, g2, g3, fl, Int.tmod zz (b + 1)⟩ : Sup).enc = EN at *
        have hEN' := hEN
        clear hEN
        have u0 : (W1.setCell ⟨sb, 9, none⟩ (.int .i64 (Int.tmod zz (b + 1)))).cell? ⟨sb, 0, none⟩ = some (.int .u64 ((q : Int) + (i : Int))) := (by have h7 := cell_of_row _ _ 0 _ _ _ HT3.out.sx; rw [h7]; simp only [Sup.row]; rw [HQN.out]; rfl)
        have u1 : (W1.setCell ⟨sb, 9, none⟩ (.int .i64 (Int.tmod zz (b + 1)))).cell? ⟨sb, 1, none⟩ = some (.int .i64 b) := cell_of_row _ _ _ _ _ _ HT3.out.sx
        have u2 : (W1.setCell ⟨sb, 9, none⟩ (.int .i64 (Int.tmod zz (b + 1)))).cell? ⟨sb, 2, none⟩ = some (.int .i64 (z : Int)) := cell_of_row _ _ _ _ _ _ HT3.out.sx
        have u3 : (W1.setCell ⟨sb, 9, none⟩ (.int .i64 (Int.tmod zz (b + 1)))).cell? ⟨sb, 3, none⟩ = some (.int .i64 k) := cell_of_row _ _ _ _ _ _ HT3.out.sx
        have u4 : (W1.setCell ⟨sb, 9, none⟩ (.int .i64 (Int.tmod zz (b + 1)))).cell? ⟨sb, 4, none⟩ = some (.int .u64 (g0 : Int)) := cell_of_row _ _ _ _ _ _ HT3.out.sx
        have u5 : (W1.setCell ⟨sb, 9, none⟩ (.int .i64 (Int.tmod zz (b + 1)))).cell? ⟨sb, 5, none⟩ = some (.int .u64 (g1 : Int)) := cell_of_row _ _ _ _ _ _ HT3.out.sx
        have u6 : (W1.setCell ⟨sb, 9, none⟩ (.int .i64 (Int.tmod zz (b + 1)))).cell? ⟨sb, 6, none⟩ = some (.int .u64 (g2 : Int)) := cell_of_row _ _ _ _ _ _ HT3.out.sx
        have u7 : (W1.setCell ⟨sb, 9, none⟩ (.int .i64 (Int.tmod zz (b + 1)))).cell? ⟨sb, 7, none⟩ = some (.int .u64 (g3 : Int)) := cell_of_row _ _ _ _ _ _ HT3.out.sx
        have u8 : (W1.setCell ⟨sb, 9, none⟩ (.int .i64 (Int.tmod zz (b + 1)))).cell? ⟨sb, 8, none⟩ = some (.int .u32 (fl : Int)) := cell_of_row _ _ _ _ _ _ HT3.out.sx
        have u9 : (W1.setCell ⟨sb, 9, none⟩ (.int .i64 (Int.tmod zz (b + 1)))).cell? ⟨sb, 9, none⟩ = some (.int .i64 (Int.tmod zz (b + 1))) := cell_of_row _ _ _ _ _ _ HT3.out.sx
        have HEN : Hid (Sup.enc ⟨q + i, b, (z : Int), k, g0, g1, g2, g3, fl, Int.tmod zz (b + 1)⟩ = EN) := hide hEN'
        by_cases hrun : f0 < 0 ∨ (i : Int) < f0
        · obtain ⟨hpe, hti'⟩ := HTI.out.yes hrun HEL.out
          rw [show ((i % 2 : Nat) : Int) = (i : Int) % 2 by omega] at hpe hti'
          have HPE := hide hpe
          have HTI' := hide hti'
          clear hpe hti'
          obtain ⟨i0, hi0, hz0', hz1', hz2'⟩ := info_parts info_super
          have hdl : D.length ≤ 1048576 := by have := HTI.out.len; rw [List.length_map] at this; omega
          go_wp2_with (first
            | (go_at_call 7; refine (HSE.out _ (HT3.out.below (Below.refl _ _).drew)).mono ?_; rintro e y4 ⟨gl, rfl, hroom, hb4⟩; have HT4 := hide ((HT3.out.below (Below.refl _ _).drew).below hb4); have HBL : Hid (K.BSl y4 (.slice (some ⟨gl, 0, none⟩) z z) EN) := hide (by have hx := hroom.own.bsl; rw [HEL.out] at hx; exact hx); unfold gsl; clear hroom hb4 HSE)
            | (go_at_call 8; refine (K.Through_any HT4.out.rp ((i : Int) % 2) _ HBL.out).mono ?_; rintro e y5 ⟨u, U5, rfl, herr, hrep, hg5⟩; rw [HPE.out] at herr; obtain rfl := errIs_0 herr; have HT5 := hide (HT4.out.grow hrep hg5); have v0 : y5.cell? ⟨sb, 0, none⟩ = some (.int .u64 ((q : Int) + (i : Int))) := (by have h7 := cell_of_row _ _ 0 _ _ _ HT5.out.sx; rw [h7]; simp only [Sup.row]; rw [HQN.out]; rfl); have v1 : y5.cell? ⟨sb, 1, none⟩ = some (.int .i64 b) := cell_of_row _ _ _ _ _ _ HT5.out.sx; have v2 : y5.cell? ⟨sb, 2, none⟩ = some (.int .i64 (z : Int)) := cell_of_row _ _ _ _ _ _ HT5.out.sx; have v3 : y5.cell? ⟨sb, 3, none⟩ = some (.int .i64 k) := cell_of_row _ _ _ _ _ _ HT5.out.sx; have v4 : y5.cell? ⟨sb, 4, none⟩ = some (.int .u64 (g0 : Int)) := cell_of_row _ _ _ _ _ _ HT5.out.sx; have v5 : y5.cell? ⟨sb, 5, none⟩ = some (.int .u64 (g1 : Int)) := cell_of_row _ _ _ _ _ _ HT5.out.sx; have v6 : y5.cell? ⟨sb, 6, none⟩ = some (.int .u64 (g2 : Int)) := cell_of_row _ _ _ _ _ _ HT5.out.sx; have v7 : y5.cell? ⟨sb, 7, none⟩ = some (.int .u64 (g3 : Int)) := cell_of_row _ _ _ _ _ _ HT5.out.sx; have v8 : y5.cell? ⟨sb, 8, none⟩ = some (.int .u32 (fl : Int)) := cell_of_row _ _ _ _ _ _ HT5.out.sx; have v9 : y5.cell? ⟨sb, 9, none⟩ = some (.int .i64 (Int.tmod zz (b + 1))) := cell_of_row _ _ _ _ _ _ HT5.out.sx;  clear hrep hg5; have o3 := HT5.out.dn.alloc (.cells #[.int .u64 ((q : Int) + (i : Int)), .int .i64 b, .int .i64 (z : Int), .int .i64 k, .int .u64 (g0 : Int), .int .u64 (g1 : Int), .int .u64 (g2 : Int), .int .u64 (g3 : Int), .int .u32 (fl : Int), .int .i64 (Int.tmod zz (b + 1))] 27); have HPUSH := hide (fun v' y6 (y1 : y6.ownsRow 0 27 10 v' (D.length + 1) (dflat D ++ [.int .u64 ((q : Int) + (i : Int)), .int .i64 b, .int .i64 (z : Int), .int .i64 k, .int .u64 (g0 : Int), .int .u64 (g1 : Int), .int .u64 (g2 : Int), .int .u64 (g3 : Int), .int .u32 (fl : Int), .int .i64 (Int.tmod zz (b + 1))])) (y2 : Upon (y5.alloc (.cells #[.int .u64 ((q : Int) + (i : Int)), .int .i64 b, .int .i64 (z : Int), .int .i64 k, .int .u64 (g0 : Int), .int .u64 (g1 : Int), .int .u64 (g2 : Int), .int .u64 (g3 : Int), .int .u32 (fl : Int), .int .i64 (Int.tmod zz (b + 1))] 27)) y6 _ v') => TL.push HT5.out HTI'.out HEN.out HOK.out HSQ.out HOKI.out (by simp only [Sup.row]; rw [HQN.out]; exact y1) y2 (by have := HTI.out.rn; rw [List.length_map] at this; omega)); generalize dflat D = DF at *)
            | (at_builtin; refine wpList_appendC _ rfl (.tmp 97) (.tmp 99) 36 rfl 27 i0 (.agg (Sup.row ⟨0, 0, 0, 0, 0, 0, 0, 0, 0, 0⟩)) 10 80 Tryd.underlying36 hi0 hz0' hz1' hz2' rfl (by decide) _ _ _ rfl o3 ⟨y5.heap.size, 0, none⟩ 1 1 [.int .u64 ((q : Int) + (i : Int)), .int .i64 b, .int .i64 (z : Int), .int .i64 k, .int .u64 (g0 : Int), .int .u64 (g1 : Int), .int .u64 (g2 : Int), .int .u64 (g3 : Int), .int .u32 (fl : Int), .int .i64 (Int.tmod zz (b + 1))] rfl rfl (by decide) (cells_newR _ _ _) (by simp [Value.oneCell']) (by unfold maxLen; omega) (by omega) ?_; intro v' y6 q1 q2; have HN := hide (HPUSH.out v' y6 q1 q2); clear q1 q2 HPUSH o3))
          go_roundw
          case rel => exact ⟨i + 1, by omega, by go_num, HN.out⟩
          case measure => simp [intOf]; omega
        · obtain ⟨hpe, hti'⟩ := HTI.out.no hrun HEL.out
          rw [show ((i % 2 : Nat) : Int) = (i : Int) % 2 by omega] at hpe hti'
          have HPE := hide hpe
          have HTI' := hide hti'
          have hst1 : ¬ (steps < 0 ∨ (i : Int) < steps) := fun e => hrun ((HF0.out i).2 e)
          have hst2 : (steps < 0) = False := by simp; omega
          have hst3 : ((i : Int) < steps) = False := by simp; omega
          clear hpe hti' hst1
          go_wp2_with (first
            | (go_at_call 7; refine (HSE.out _ (HT3.out.below (Below.refl _ _).drew)).mono ?_; rintro e y4 ⟨gl, rfl, hroom, hb4⟩; have HT4 := hide ((HT3.out.below (Below.refl _ _).drew).below hb4); have HBL : Hid (K.BSl y4 (.slice (some ⟨gl, 0, none⟩) z z) EN) := hide (by have hx := hroom.own.bsl; rw [HEL.out] at hx; exact hx); unfold gsl; clear hroom hb4 HSE)
            | (go_at_call 8; refine (K.Through_any HT4.out.rp ((i : Int) % 2) _ HBL.out).mono ?_; rintro e y5 ⟨u, U5, rfl, herr, hrep, hg5⟩; rw [HPE.out] at herr; obtain ⟨ge, rfl⟩ := errIs_n herr (by decide); have HN : Hid (TL w y5 ⟨q, b, (z : Int), k, g0, g1, g2, g3, fl, m⟩ sb L0 _ z (i + 1) f0) := hide ⟨U5, _, D, q + i, (Int.tmod zz (b + 1)), HT4.out.grow hrep hg5, HTI'.out, HOK.out, HSQ.out⟩; unfold K.errV; clear hrep hg5))
          go_roundw
          case rel => exact ⟨i + 1, by omega, by go_num, HN.out⟩
          case measure => simp [intOf]; omega
    · obtain rfl : i = ms.length := by omega
      have hlt2 : ¬ (ms.length < ms.length) := by omega
      have HRI := hide (rise_of HOK.out HSQ.out)
      have hdm : D.length ≤ 1048576 := by have := HTI.out.len; rw [List.length_map] at this; omega
      cases hsp : sp
      · by_cases hD : D.length = 0
        · skip
          obtain rfl : D = [] := List.length_eq_zero_iff.1 hD
          obtain ⟨r, hr⟩ : ∃ r, cho (uns (lastE z [] 0)) (uns (lastE z [] 1)) = r := ⟨_, rfl⟩
          have hr2 : ¬ r.2.2 = 0 := by rw [← hr]; exact fin_none z
          have HR := hide hr
          obtain ⟨⟨t0, t1, t2, t3, t4, t5, t6, t7, t8, t9⟩, ra, rg⟩ := r
          dsimp only at hr2
          clear hr
          go_wp2_with (first
            | (go_at_call 9; refine (crash_tw HTW.out HTI.out HP.out).mono ?_; rintro e y1 ⟨rfl, S1, ht1, hc1⟩; have HT1 := hide ht1; have HC1 := hide hc1; clear ht1 hc1)
            | (go_at_call 11; refine (read_0 ⟨_, HT1.out, HC1.out⟩).mono ?_; rintro e y2 ⟨v0, u0, rfl, hs⟩; have HS := hide hs; clear hs HT1 HC1)
            | (go_at_call 11; refine (read_1 HS.out).mono ?_; rintro e y3 ⟨v1, u1, rfl, hs⟩; have HS2 := hide hs; clear hs HS)
            | (go_at_call 12; refine (choose_2 HS2.out HT.out HR.out).mono ?_; rintro e y4 ⟨rfl, S4, ht4⟩; have HT4 := hide ht4; unfold Sup.val Sup.row; dsimp only; clear ht4 HS2))
          all_goals (try go_ret)
          all_goals exact ⟨by simpa using hr2, (HT4.out.below ((Below.refl _ _).alloc (Nat.le_refl _) _)).be⟩
        · skip
          obtain ⟨d, hd⟩ : ∃ d, D.length = d + 1 := ⟨D.length - 1, by omega⟩
          have hdl : d < D.length := by omega
          obtain ⟨g, cap, e, -, -, -⟩ := HTW.out.doneAt hdl
          simp only [Value.slice.injEq] at e
          obtain ⟨rfl, -, rfl⟩ := e
          obtain ⟨t, ht⟩ : ∃ t, D[d] = t := ⟨_, rfl⟩
          have hr := fin_plain HRI.out (by omega)
          have e1 : D[D.length - 1]'(by omega) = t := by rw [← ht]; congr 1; omega
          rw [e1, show D.length - 1 = d by omega] at hr
          have HR : Hid (cho (uns (rdO (some (lastE z (D.map Sup.enc) 0)))) (uns (rdO (some (lastE z (D.map Sup.enc) 1)))) = (t, ((d % 2 : Nat) : Int), 0)) := hide hr
          clear hr e1
          have hdd : ((d % 2 : Nat) : Int) = (d : Int) % 2 := by omega
          rw [hdd] at HR
          obtain ⟨t0, t1, t2, t3, t4, t5, t6, t7, t8, t9⟩ := t
          rw [hd] at HTW ⊢
          go_wp2_with (first
            | (go_at_call 9; refine (crash_tw HTW.out HTI.out HP.out).mono ?_; rintro e y1 ⟨rfl, S1, ht1, hc1⟩; have HT1 := hide ht1; have HC1 := hide hc1; clear ht1 hc1)
            | (go_at_call 11; refine (read_0 ⟨_, HT1.out, HC1.out⟩).mono ?_; rintro e y2 ⟨v0, u0, rfl, hs⟩; have HS := hide hs; clear hs HT1 HC1)
            | (go_at_call 11; refine (read_1 HS.out).mono ?_; rintro e y3 ⟨v1, u1, rfl, hs⟩; have HS2 := hide hs; clear hs HS)
            | (go_at_call 12; refine (choose_2 HS2.out HT.out HR.out).mono ?_; rintro e y4 ⟨rfl, S4, ht4⟩; have HT4 := hide ht4; have HL := hide (ht4.lastAt hdl ht (.cells #[.int .u64 (t0 : Int), .int .i64 t1, .int .i64 t2, .int .i64 t3, .int .u64 (t4 : Int), .int .u64 (t5 : Int), .int .u64 (t6 : Int), .int .u64 (t7 : Int), .int .u32 (t8 : Int), .int .i64 t9] 27)); have k0 : (y4.alloc (.cells #[.int .u64 (t0 : Int), .int .i64 t1, .int .i64 t2, .int .i64 t3, .int .u64 (t4 : Int), .int .u64 (t5 : Int), .int .u64 (t6 : Int), .int .u64 (t7 : Int), .int .u32 (t8 : Int), .int .i64 t9] 27)).cell? ⟨g, d * 10, none⟩ = some (.int .u64 (t0 : Int)) := HL.out 0 (by decide); have k1 : (y4.alloc (.cells #[.int .u64 (t0 : Int), .int .i64 t1, .int .i64 t2, .int .i64 t3, .int .u64 (t4 : Int), .int .u64 (t5 : Int), .int .u64 (t6 : Int), .int .u64 (t7 : Int), .int .u32 (t8 : Int), .int .i64 t9] 27)).cell? ⟨g, d * 10 + 1, none⟩ = some (.int .i64 t1) := HL.out 1 (by decide); have k2 : (y4.alloc (.cells #[.int .u64 (t0 : Int), .int .i64 t1, .int .i64 t2, .int .i64 t3, .int .u64 (t4 : Int), .int .u64 (t5 : Int), .int .u64 (t6 : Int), .int .u64 (t7 : Int), .int .u32 (t8 : Int), .int .i64 t9] 27)).cell? ⟨g, d * 10 + 2, none⟩ = some (.int .i64 t2) := HL.out 2 (by decide); have k3 : (y4.alloc (.cells #[.int .u64 (t0 : Int), .int .i64 t1, .int .i64 t2, .int .i64 t3, .int .u64 (t4 : Int), .int .u64 (t5 : Int), .int .u64 (t6 : Int), .int .u64 (t7 : Int), .int .u32 (t8 : Int), .int .i64 t9] 27)).cell? ⟨g, d * 10 + 3, none⟩ = some (.int .i64 t3) := HL.out 3 (by decide); have k4 : (y4.alloc (.cells #[.int .u64 (t0 : Int), .int .i64 t1, .int .i64 t2, .int .i64 t3, .int .u64 (t4 : Int), .int .u64 (t5 : Int), .int .u64 (t6 : Int), .int .u64 (t7 : Int), .int .u32 (t8 : Int), .int .i64 t9] 27)).cell? ⟨g, d * 10 + 4, none⟩ = some (.int .u64 (t4 : Int)) := HL.out 4 (by decide); have k5 : (y4.alloc (.cells #[.int .u64 (t0 : Int), .int .i64 t1, .int .i64 t2, .int .i64 t3, .int .u64 (t4 : Int), .int .u64 (t5 : Int), .int .u64 (t6 : Int), .int .u64 (t7 : Int), .int .u32 (t8 : Int), .int .i64 t9] 27)).cell? ⟨g, d * 10 + 5, none⟩ = some (.int .u64 (t5 : Int)) := HL.out 5 (by decide); have k6 : (y4.alloc (.cells #[.int .u64 (t0 : Int), .int .i64 t1, .int .i64 t2, .int .i64 t3, .int .u64 (t4 : Int), .int .u64 (t5 : Int), .int .u64 (t6 : Int), .int .u64 (t7 : Int), .int .u32 (t8 : Int), .int .i64 t9] 27)).cell? ⟨g, d * 10 + 6, none⟩ = some (.int .u64 (t6 : Int)) := HL.out 6 (by decide); have k7 : (y4.alloc (.cells #[.int .u64 (t0 : Int), .int .i64 t1, .int .i64 t2, .int .i64 t3, .int .u64 (t4 : Int), .int .u64 (t5 : Int), .int .u64 (t6 : Int), .int .u64 (t7 : Int), .int .u32 (t8 : Int), .int .i64 t9] 27)).cell? ⟨g, d * 10 + 7, none⟩ = some (.int .u64 (t7 : Int)) := HL.out 7 (by decide); have k8 : (y4.alloc (.cells #[.int .u64 (t0 : Int), .int .i64 t1, .int .i64 t2, .int .i64 t3, .int .u64 (t4 : Int), .int .u64 (t5 : Int), .int .u64 (t6 : Int), .int .u64 (t7 : Int), .int .u32 (t8 : Int), .int .i64 t9] 27)).cell? ⟨g, d * 10 + 8, none⟩ = some (.int .u32 (t8 : Int)) := HL.out 8 (by decide); have k9 : (y4.alloc (.cells #[.int .u64 (t0 : Int), .int .i64 t1, .int .i64 t2, .int .i64 t3, .int .u64 (t4 : Int), .int .u64 (t5 : Int), .int .u64 (t6 : Int), .int .u64 (t7 : Int), .int .u32 (t8 : Int), .int .i64 t9] 27)).cell? ⟨g, d * 10 + 9, none⟩ = some (.int .i64 t9) := HL.out 9 (by decide); unfold Sup.val Sup.row; dsimp only; clear ht4 HS2 HL))
          all_goals go_quiet (fail)
          all_goals go_wp2
          all_goals (try go_ret)
          all_goals exact ⟨rfl, below_drewN (HT4.out.below ((Below.refl _ _).alloc (Nat.le_refl _) _)).be _⟩
      · by_cases hD : D.length = 0
        · skip
          obtain rfl : D = [] := List.length_eq_zero_iff.1 hD
          obtain ⟨r, hr⟩ : ∃ r, cho (uns (lastE z [] 0)) (uns (lastE z [] 1)) = r := ⟨_, rfl⟩
          have hr2 : ¬ r.2.2 = 0 := by rw [← hr]; exact fin_none z
          have HR := hide hr
          obtain ⟨⟨t0, t1, t2, t3, t4, t5, t6, t7, t8, t9⟩, ra, rg⟩ := r
          dsimp only at hr2
          clear hr
          go_wp2_with (first
            | (go_at_call 9; refine (crash_tw HTW.out HTI.out HP.out).mono ?_; rintro e y1 ⟨rfl, S1, ht1, hc1⟩; have HT1 := hide ht1; have HC1 := hide hc1; clear ht1 hc1)
            | (go_at_call 11; refine (read_0 ⟨_, HT1.out, HC1.out⟩).mono ?_; rintro e y2 ⟨v0, u0, rfl, hs⟩; have HS := hide hs; clear hs HT1 HC1)
            | (go_at_call 11; refine (read_1 HS.out).mono ?_; rintro e y3 ⟨v1, u1, rfl, hs⟩; have HS2 := hide hs; clear hs HS)
            | (go_at_call 12; refine (choose_2 HS2.out HT.out HR.out).mono ?_; rintro e y4 ⟨rfl, S4, ht4⟩; have HT4 := hide ht4; unfold Sup.val Sup.row; dsimp only; clear ht4 HS2))
          all_goals (try go_ret)
          all_goals exact ⟨by simpa using hr2, (HT4.out.below ((Below.refl _ _).alloc (Nat.le_refl _) _)).be⟩
        · by_cases hD1 : D.length = 1
          · skip
            have hr1 := fin_spoilt1 (z := z) hD1
            rw [hD1] at HTW hr1 ⊢
            obtain ⟨r, hr⟩ : ∃ r, cho (uns (rdO (if 0 = (1 - 1) % 2 then none else some (lastE z (D.map Sup.enc) 0)))) (uns (rdO (if 1 = (1 - 1) % 2 then none else some (lastE z (D.map Sup.enc) 1)))) = r := ⟨_, rfl⟩
            have hr2 : ¬ r.2.2 = 0 := by rw [← hr]; exact hr1
            have HR := hide hr
            obtain ⟨⟨t0, t1, t2, t3, t4, t5, t6, t7, t8, t9⟩, ra, rg⟩ := r
            dsimp only at hr2
            clear hr
            go_wp2_with (first
              | (go_at_call 9; refine (crash_tw HTW.out HTI.out HP.out).mono ?_; rintro e y1 ⟨rfl, S1, ht1, hc1⟩; have HT1 := hide ht1; have HC1 := hide hc1; clear ht1 hc1)
              | (go_at_call 10; refine (spoil_tw (k := 0) HT1.out HC1.out (by decide)).mono ?_; rintro e y5 ⟨rfl, U5, S5, ht5, hc5⟩; clear HT1 HC1; have HT1 := hide ht5; have HC1 := hide hc5; clear ht5 hc5)
              | (go_at_call 11; refine (read_0 ⟨_, HT1.out, HC1.out⟩).mono ?_; rintro e y2 ⟨v0, u0, rfl, hs⟩; have HS := hide hs; clear hs HT1 HC1)
              | (go_at_call 11; refine (read_1 HS.out).mono ?_; rintro e y3 ⟨v1, u1, rfl, hs⟩; have HS2 := hide hs; clear hs HS)
              | (go_at_call 12; refine (choose_2 HS2.out HT.out HR.out).mono ?_; rintro e y4 ⟨rfl, S4, ht4⟩; have HT4 := hide ht4; unfold Sup.val Sup.row; dsimp only; clear ht4 HS2))
            all_goals (try go_ret)
            all_goals exact ⟨by simpa using hr2, (HT4.out.below ((Below.refl _ _).alloc (Nat.le_refl _) _)).be⟩
          · skip
            obtain ⟨d, hd⟩ : ∃ d, D.length = d + 2 := ⟨D.length - 2, by omega⟩
            have hdl : d < D.length := by omega
            obtain ⟨g, cap, e, -, -, -⟩ := HTW.out.doneAt hdl
            simp only [Value.slice.injEq] at e
            obtain ⟨rfl, -, rfl⟩ := e
            obtain ⟨t, ht⟩ : ∃ t, D[d] = t := ⟨_, rfl⟩
            have hr := fin_spoilt HRI.out (by omega)
            have e1 : D[D.length - 2]'(by omega) = t := by rw [← ht]; congr 1; omega
            rw [e1, show D.length - 2 = d by omega, show D.length - 1 = d + 1 by omega] at hr
            have HR := hide hr
            clear hr e1
            have hdd : ((d % 2 : Nat) : Int) = (d : Int) % 2 := by omega
            have hdd1 : (((d + 1) % 2 : Nat) : Int) = ((d : Int) + 1) % 2 := by omega
            rw [hdd] at HR
            have HSP := hide (fun y S (h : TW w y ⟨q, b, (z : Int), k, g0, g1, g2, g3, fl, m⟩ _ sb { L0 with U := U } S _ D) (hc : TC S (fun k => some (lastE z (D.map Sup.enc) k))) => spoil_tw (s := ⟨q', b, (z : Int), k, g0, g1, g2, g3, fl, m'⟩) (dv := .slice (some ⟨g, 0, none⟩) (d + 2) dc) (k := (d + 1) % 2) h hc (by omega))
            rw [hdd1] at HSP
            have HD2 : Hid ((d : Int) + 2 - 1 = d + 1) := hide (by omega)
            obtain ⟨t0, t1, t2, t3, t4, t5, t6, t7, t8, t9⟩ := t
            rw [hd] at HTW ⊢
            go_wp2_with (first
              | (go_at_call 9; refine (crash_tw HTW.out HTI.out HP.out).mono ?_; rintro e y1 ⟨rfl, S1, ht1, hc1⟩; have HT1 := hide ht1; have HC1 := hide hc1; clear ht1 hc1)
              | (go_at_call 10; (try simp only [HD2.out]); refine (HSP.out _ _ HT1.out HC1.out).mono ?_; rintro e y5 ⟨rfl, U5, S5, ht5, hc5⟩; clear HT1 HC1; have HT1 := hide ht5; have HC1 := hide hc5; clear ht5 hc5)
              | (go_at_call 11; refine (read_0 ⟨_, HT1.out, HC1.out⟩).mono ?_; rintro e y2 ⟨v0, u0, rfl, hs⟩; have HS := hide hs; clear hs HT1 HC1)
              | (go_at_call 11; refine (read_1 HS.out).mono ?_; rintro e y3 ⟨v1, u1, rfl, hs⟩; have HS2 := hide hs; clear hs HS)
              | (go_at_call 12; refine (choose_2 HS2.out HT.out HR.out).mono ?_; rintro e y4 ⟨rfl, S4, ht4⟩; have HT4 := hide ht4; have HL := hide (ht4.lastAt hdl ht (.cells #[.int .u64 (t0 : Int), .int .i64 t1, .int .i64 t2, .int .i64 t3, .int .u64 (t4 : Int), .int .u64 (t5 : Int), .int .u64 (t6 : Int), .int .u64 (t7 : Int), .int .u32 (t8 : Int), .int .i64 t9] 27)); have k0 : (y4.alloc (.cells #[.int .u64 (t0 : Int), .int .i64 t1, .int .i64 t2, .int .i64 t3, .int .u64 (t4 : Int), .int .u64 (t5 : Int), .int .u64 (t6 : Int), .int .u64 (t7 : Int), .int .u32 (t8 : Int), .int .i64 t9] 27)).cell? ⟨g, d * 10, none⟩ = some (.int .u64 (t0 : Int)) := HL.out 0 (by decide); have k1 : (y4.alloc (.cells #[.int .u64 (t0 : Int), .int .i64 t1, .int .i64 t2, .int .i64 t3, .int .u64 (t4 : Int), .int .u64 (t5 : Int), .int .u64 (t6 : Int), .int .u64 (t7 : Int), .int .u32 (t8 : Int), .int .i64 t9] 27)).cell? ⟨g, d * 10 + 1, none⟩ = some (.int .i64 t1) := HL.out 1 (by decide); have k2 : (y4.alloc (.cells #[.int .u64 (t0 : Int), .int .i64 t1, .int .i64 t2, .int .i64 t3, .int .u64 (t4 : Int), .int .u64 (t5 : Int), .int .u64 (t6 : Int), .int .u64 (t7 : Int), .int .u32 (t8 : Int), .int .i64 t9] 27)).cell? ⟨g, d * 10 + 2, none⟩ = some (.int .i64 t2) := HL.out 2 (by decide); have k3 : (y4.alloc (.cells #[.int .u64 (t0 : Int), .int .i64 t1, .int .i64 t2, .int .i64 t3, .int .u64 (t4 : Int), .int .u64 (t5 : Int), .int .u64 (t6 : Int), .int .u64 (t7 : Int), .int .u32 (t8 : Int), .int .i64 t9] 27)).cell? ⟨g, d * 10 + 3, none⟩ = some (.int .i64 t3) := HL.out 3 (by decide); have k4 : (y4.alloc (.cells #[.int .u64 (t0 : Int), .int .i64 t1, .int .i64 t2, .int .i64 t3, .int .u64 (t4 : Int), .int .u64 (t5 : Int), .int .u64 (t6 : Int), .int .u64 (t7 : Int), .int .u32 (t8 : Int), .int .i64 t9] 27)).cell? ⟨g, d * 10 + 4, none⟩ = some (.int .u64 (t4 : Int)) := HL.out 4 (by decide); have k5 : (y4.alloc (.cells #[.int .u64 (t0 : Int), .int .i64 t1, .int .i64 t2, .int .i64 t3, .int .u64 (t4 : Int), .int .u64 (t5 : Int), .int .u64 (t6 : Int), .int .u64 (t7 : Int), .int .u32 (t8 : Int), .int .i64 t9] 27)).cell? ⟨g, d * 10 + 5, none⟩ = some (.int .u64 (t5 : Int)) := HL.out 5 (by decide); have k6 : (y4.alloc (.cells #[.int .u64 (t0 : Int), .int .i64 t1, .int .i64 t2, .int .i64 t3, .int .u64 (t4 : Int), .int .u64 (t5 : Int), .int .u64 (t6 : Int), .int .u64 (t7 : Int), .int .u32 (t8 : Int), .int .i64 t9] 27)).cell? ⟨g, d * 10 + 6, none⟩ = some (.int .u64 (t6 : Int)) := HL.out 6 (by decide); have k7 : (y4.alloc (.cells #[.int .u64 (t0 : Int), .int .i64 t1, .int .i64 t2, .int .i64 t3, .int .u64 (t4 : Int), .int .u64 (t5 : Int), .int .u64 (t6 : Int), .int .u64 (t7 : Int), .int .u32 (t8 : Int), .int .i64 t9] 27)).cell? ⟨g, d * 10 + 7, none⟩ = some (.int .u64 (t7 : Int)) := HL.out 7 (by decide); have k8 : (y4.alloc (.cells #[.int .u64 (t0 : Int), .int .i64 t1, .int .i64 t2, .int .i64 t3, .int .u64 (t4 : Int), .int .u64 (t5 : Int), .int .u64 (t6 : Int), .int .u64 (t7 : Int), .int .u32 (t8 : Int), .int .i64 t9] 27)).cell? ⟨g, d * 10 + 8, none⟩ = some (.int .u32 (t8 : Int)) := HL.out 8 (by decide); have k9 : (y4.alloc (.cells #[.int .u64 (t0 : Int), .int .i64 t1, .int .i64 t2, .int .i64 t3, .int .u64 (t4 : Int), .int .u64 (t5 : Int), .int .u64 (t6 : Int), .int .u64 (t7 : Int), .int .u32 (t8 : Int), .int .i64 t9] 27)).cell? ⟨g, d * 10 + 9, none⟩ = some (.int .i64 t9) := HL.out 9 (by decide); unfold Sup.val Sup.row; dsimp only; clear ht4 HS2 HL))
            all_goals (simp only [HD2.out])
            all_goals go_quiet (fail)
            all_goals go_wp2
            all_goals (try go_ret)
            all_goals exact ⟨rfl, below_drewN (HT4.out.below ((Below.refl _ _).alloc (Nat.le_refl _) _)).be _⟩
end Go.Proofs.YtepgiomgkgfioaaDoor
namespace Go.Proofs.YtepgiomgkgfioaaDoor
open Go.ChangeShapes Go.WideShapes Go.ChangeAt Go.RowKit
set_option linter.unusedVariables false

theorem bulk_pos {H : Type} (d : DataW H) : 1 ≤ Rows.uptoBulk d := by
  cases d with
  | lit l => cases l <;> simp [Rows.uptoBulk]
  | _ => simp [Rows.uptoBulk]
theorem bulk_len {H : Type} (l : List (DataW H)) : l.length ≤ Rows.uptoBulkAll l := by
  induction l with
  | nil => exact Nat.zero_le _
  | cons x r ih => have := bulk_pos x; rw [Rows.uptoBulkAll, List.length_cons]; omega
/-- a list of bytes is no longer than its bulk -/
theorem bulk_bytes {H : Type} {enc : TypeId × Value → H} {W : World} {v : Value} {l : List Nat} {d : DataW H} {p : List MemPlace} (hb : BSl W v l) (h1 : DataW.Trod enc Tryd.prog W 0 (fun _ => true) true 29 v d p) : l.length ≤ Rows.uptoBulk d := by
  obtain ⟨a, cap, rfl, _⟩ := hb
  obtain ⟨fuel, hf⟩ := h1
  rcases open_ints Tryd.underlying29 Tryd.underlying5 (by kernel_rfl) hf with ⟨hcs, _⟩ | ⟨x, n, c, zs, hcs, _, hl, hm, hz, hx, hcell, hwz⟩
  · simp [Value.cells] at hcs
    omega
  · simp [Value.cells] at hcs
    obtain ⟨rfl, rfl, rfl⟩ := hcs
    simp only [Prod.mk.injEq] at hx
    obtain ⟨rfl, _⟩ := hx
    have h2 := bulk_len (lits (H := H) .u8 (zs.take l.length))
    simp only [if_true] at hz
    simp only [lits, List.length_map, List.length_take] at h2
    rw [Rows.uptoBulk]
    simp only [lits] at *
    omega
end Go.Proofs.YtepgiomgkgfioaaDoor
namespace Go.Proofs.YtepgiomgkgfioaaDoor
open Go.RowKit
set_option linter.unusedVariables false
set_option linter.unusedSimpArgs false
set_option maxRecDepth 20000

set_option maxHeartbeats 4000000 in
theorem turns_no (w : World) (fs : Sup) (hwf : fs.Wf) (mv : Value) (ms : List Int) (hm : ISl w mv ms) (hl : ms.length ≤ 1048576) (steps : Int) (pv : Value) (sp : Bool) (hno : fs.ok = false ∨ (fs.ok = true ∧ 4611686018427387904 < fs.seq + ms.length)) :
    Calls Tryd.prog 3 #[fs.val, mv, .int .i64 steps, pv, .bool sp] w fun e w' => e = .returned (.bool true) ∧ Below w.heap.size w w' := by
  have HLA := hide fun x => lawful_any x fs hwf
  have HB0 : Hid (Below w.heap.size w (w.alloc (.cells fs.row 27))) := hide ((Below.refl _ _).alloc (Nat.le_refl _) _)
  obtain ⟨ma, mc, emv, hml, hmx, -⟩ := hm
  subst emv
  unfold maxLen at hmx
  have hlw : IntKind.u64.wrap ((ms.length : Nat) : Int) = ((ms.length : Nat) : Int) := by simp [IntKind.wrap, IntKind.bits, IntKind.signed]; omega
  rcases hno with hno | ⟨hyes, hno⟩
  · rw [hno] at HLA
    obtain ⟨q, b, z, k, g0, g1, g2, g3, fl, m⟩ := fs
    unfold Sup.val Sup.row at HLA HB0 ⊢
    dsimp only at HLA HB0 ⊢
    go_enter Tryd.func3, Tryd.ntmps3
    go_wp2_with (go_at_call 4; refine (HLA.out _).mono ?_; rintro e y1 ⟨rfl, hb1⟩; have HB1 := hide (HB0.out.trans (hb1.mono HB0.out.size)); clear hb1 HLA)
    all_goals (try go_quiet (fail))
    all_goals (try go_wp2)
    all_goals (try go_ret)
    all_goals first | exact ⟨rfl, HB1.out⟩ | exact ⟨rfl, below_drewN HB1.out _⟩
  · rw [hyes] at HLA
    have hlc : ((4611686018427387904 : Int) - ((ms.length : Nat) : Int) < (fs.seq : Int)) = True := by simp; omega
    obtain ⟨q, b, z, k, g0, g1, g2, g3, fl, m⟩ := fs
    dsimp only at hlc
    unfold Sup.val Sup.row at HLA HB0 ⊢
    dsimp only at HLA HB0 ⊢
    go_enter Tryd.func3, Tryd.ntmps3
    go_wp2_with (go_at_call 4; refine (HLA.out _).mono ?_; rintro e y1 ⟨rfl, hb1⟩; have HB1 := hide (HB0.out.trans (hb1.mono HB0.out.size)); have hr1 : y1.heap[w.heap.size]? = some (.cells #[.int .u64 (q : Int), .int .i64 b, .int .i64 z, .int .i64 k, .int .u64 (g0 : Int), .int .u64 (g1 : Int), .int .u64 (g2 : Int), .int .u64 (g3 : Int), .int .u32 (fl : Int), .int .i64 m] 27 (0, 0)) := (hb1.block _ (by simp)).trans (Go.heap_alloc_new w _); have x0 : y1.cell? ⟨w.heap.size, 0, none⟩ = some (.int .u64 (q : Int)) := cell_of_row _ _ _ _ _ _ hr1; clear hr1 hb1 HLA)
    all_goals (try go_quiet (fail))
    all_goals (try go_wp2)
    all_goals (try go_ret)
    all_goals first | exact ⟨rfl, HB1.out⟩ | exact ⟨rfl, below_drewN HB1.out _⟩
theorem turns_any (w : World) (fs : Sup) (hwf : fs.Wf) (mv : Value) (ms : List Int) (hm : ISl w mv ms) (hl : ms.length ≤ 1048576) (steps : Int) (hst : -9223372036854775808 ≤ steps ∧ steps ≤ 9223372036854775807) (pv : Value) (ps : List Nat) (hp : BSl w pv ps) (sp : Bool) (hT : Tabs w) :
    Calls Tryd.prog 3 #[fs.val, mv, .int .i64 steps, pv, .bool sp] w fun e w' => e = .returned (.bool true) ∧ Below w.heap.size w w' := by
  cases ho : fs.ok with
  | false => exact turns_no w fs hwf mv ms hm hl steps pv sp (.inl ho)
  | true =>
    by_cases hs : fs.seq + ms.length ≤ 4611686018427387904
    · exact turns_main w fs ⟨ho, hwf⟩ mv ms hm hl steps hst pv ps hp sp hT hs
    · exact turns_no w fs hwf mv ms hm hl steps pv sp (.inr ⟨ho, by omega⟩)
section
open Go.ChangeShapes Go.WideShapes Go.ChangeAt
/-- a list of ints is no longer than its bulk -/
theorem bulk_ints {H : Type} {enc : TypeId × Value → H} {W : World} {v : Value} {l : List Int} {d : DataW H} {p : List MemPlace} (hb : ISl W v l) (h1 : DataW.Trod enc Tryd.prog W 0 (fun _ => true) true 28 v d p) : l.length ≤ Rows.uptoBulk d := by
  obtain ⟨a, cap, rfl, _⟩ := hb
  obtain ⟨fuel, hf⟩ := h1
  rcases open_ints Tryd.underlying28 Tryd.underlying3 (by kernel_rfl) hf with ⟨hcs, _⟩ | ⟨x, n, c, zs, hcs, _, hl, hm, hz, hx, hcell, hwz⟩
  · simp [Value.cells] at hcs
    omega
  · simp [Value.cells] at hcs
    obtain ⟨rfl, rfl, rfl⟩ := hcs
    simp only [Prod.mk.injEq] at hx
    obtain ⟨rfl, _⟩ := hx
    have h2 := bulk_len (lits (H := H) .i64 (zs.take l.length))
    simp only [if_true] at hz
    simp only [lits, List.length_map, List.length_take] at h2
    rw [Rows.uptoBulk]
    simp only [lits] at *
    omega
end
end Go.Proofs.YtepgiomgkgfioaaDoor
namespace Go.Proofs.YtepgiomgkgfioaaDoor
open Go.ChangeShapes Go.WideShapes Go.ChangeAt Go.RowKit
open Num
set_option linter.unusedVariables false
set_option maxRecDepth 20000

theorem cellsSuper : Tryd.prog.cellsOf 27 = 10 := by kernel_rfl
theorem cellsGens : Tryd.prog.cellsOf 24 = 4 := by kernel_rfl
theorem cellsI : Tryd.prog.cellsOf 3 = 1 := by kernel_rfl
theorem cellsU : Tryd.prog.cellsOf 22 = 1 := by kernel_rfl
theorem cellsV : Tryd.prog.cellsOf 25 = 1 := by kernel_rfl
theorem super_again {H : Type} {enc : TypeId × Value → H} {W W' : World} {v : Value} {d : DataW H} {p : List MemPlace} (h1 : DataW.Trod enc Tryd.prog W 0 (fun _ => true) true 27 v d p) (bel : Below W.heap.size W W') :
    DataW.Trod enc Tryd.prog W' 0 (fun b => decide (b < W.heap.size)) true 27 v d p := Below.trod laidOut (by kernel_rfl) (of_decide_eq_true (by kernel_rfl)) h1 bel (trod_place_lt h1)
theorem open_super {H : Type} {enc : TypeId × Value → H} {W : World} {base : Nat} {v : Value} {d : DataW H} {p : List MemPlace} (hok : Value.okWide Tryd.prog W .any base 27 v) (h1 : DataW.Trod enc Tryd.prog W 0 (fun _ => true) true 27 v d p) :
    ∃ s : Sup, v = s.val ∧ s.Wf := by
  obtain ⟨cs, rfl, hcs⟩ := okWide_struct Tryd.underlying27 hok
  rw [cellsSuper] at hcs
  obtain ⟨fuel, hf⟩ := h1
  obtain ⟨l⟩ := cs
  match l, hcs with
  | [v0, v1, v2, v3, v4, v5, v6, v7, v8, v9], _ =>
    obtain ⟨xs, k, hk, hxy, _, hxl, hfd⟩ := DataW.trod_struct Tryd.underlying27 hf
    match xs, hxl with
    | [y0, y1, y2, y3, y4, y5, y6], _ =>
      have g0 := hfd 0 _ rfl
      have g1 := hfd 1 _ rfl
      have g2 := hfd 2 _ rfl
      have g3 := hfd 3 _ rfl
      have g4 := hfd 4 _ rfl
      have g5 := hfd 5 _ rfl
      have g6 := hfd 6 _ rfl
      simp [cellsI, cellsU, cellsV, cellsGens, Value.cells] at g0 g1 g2 g3 g4 g5 g6
      obtain ⟨xs2, k2, hk2, hxy2, _, hxl2, hfd2⟩ := DataW.trod_struct Tryd.underlying24 g4
      match xs2, hxl2 with
      | [u0, u1, u2, u3], _ =>
        have m0 := hfd2 0 _ rfl
        have m1 := hfd2 1 _ rfl
        have m2 := hfd2 2 _ rfl
        have m3 := hfd2 3 _ rfl
        simp [cellsU] at m0 m1 m2 m3
        obtain ⟨a0, e0, _, f0⟩ := DataW.trod_int Tryd.underlying22 g0
        obtain ⟨a1, e1, _, f1⟩ := DataW.trod_int Tryd.underlying3 g1
        obtain ⟨a2, e2, _, f2⟩ := DataW.trod_int Tryd.underlying3 g2
        obtain ⟨a3, e3, _, f3⟩ := DataW.trod_int Tryd.underlying3 g3
        obtain ⟨b0, p0, _, q0⟩ := DataW.trod_int Tryd.underlying22 m0
        obtain ⟨b1, p1, _, q1⟩ := DataW.trod_int Tryd.underlying22 m1
        obtain ⟨b2, p2, _, q2⟩ := DataW.trod_int Tryd.underlying22 m2
        obtain ⟨b3, p3, _, q3⟩ := DataW.trod_int Tryd.underlying22 m3
        obtain ⟨a5, e5, _, f5⟩ := DataW.trod_int Tryd.underlying25 g5
        obtain ⟨a6, e6, _, f6⟩ := DataW.trod_int Tryd.underlying3 g6
        simp at e0 e1 e2 e3 p0 p1 p2 p3 e5 e6
        subst e0 e1 e2 e3 p0 p1 p2 p3 e5 e6
        have f0 := bounds_u64 f0
        have f1 := bounds_i64 f1
        have f2 := bounds_i64 f2
        have f3 := bounds_i64 f3
        have q0 := bounds_u64 q0
        have q1 := bounds_u64 q1
        have q2 := bounds_u64 q2
        have q3 := bounds_u64 q3
        have f5 := bounds_u32 f5
        have f6 := bounds_i64 f6
        refine ⟨⟨a0.toNat, a1, a2, a3, b0.toNat, b1.toNat, b2.toNat, b3.toNat, a5.toNat, a6⟩, ?_, ?_⟩
        · simp only [Sup.val, Sup.row]
          rw [Int.toNat_of_nonneg f0.1, Int.toNat_of_nonneg q0.1, Int.toNat_of_nonneg q1.1, Int.toNat_of_nonneg q2.1, Int.toNat_of_nonneg q3.1, Int.toNat_of_nonneg f5.1]
        · unfold Sup.Wf
          dsimp only
          omega
end Go.Proofs.YtepgiomgkgfioaaDoor
