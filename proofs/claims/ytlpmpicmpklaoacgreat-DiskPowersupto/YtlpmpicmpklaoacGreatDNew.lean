import Derived.Test.YtlpmpicmpklaoacGreatDRead2
import Derived.Carry
namespace Go.Proofs.YtlpmpicmpklaoacGreat
open Go.RowKit Go.Maps
set_option linter.unusedVariables false
set_option linter.unusedSimpArgs false
set_option maxRecDepth 20000

def goodGeo (n s : Int) : Bool := decide (1 ≤ n ∧ n ≤ 8192 ∧ (s = 128 ∨ s = 256 ∨ s = 512 ∨ s = 1024))
theorem and_nat : ∀ d : Nat, d < 897 → (bits BinOp.and IntKind.i64 ((128 + d : Nat) : Int) ((127 + d : Nat) : Int) == 0) = decide (128 + d = 128 ∨ 128 + d = 256 ∨ 128 + d = 512 ∨ 128 + d = 1024) := by decide +kernel
theorem and_ok {n s : Int} (h0 : 1 ≤ n ∧ n ≤ 8192) (h1 : 128 ≤ s) (h2 : s ≤ 1024) : (bits BinOp.and IntKind.i64 s (s - 1) == 0) = goodGeo n s := by
  obtain ⟨d, rfl⟩ : ∃ d : Nat, s = ((128 + d : Nat) : Int) := ⟨(s - 128).toNat, by omega⟩
  have e : (((128 + d : Nat) : Int) - 1) = ((127 + d : Nat) : Int) := by omega
  rw [e, and_nat d (by omega)]
  unfold goodGeo
  apply decide_eq_decide.2
  omega

theorem geo_any (w : World) (n s : Int) :
    Calls Tryz.prog 37 #[.int .i64 n, .int .i64 s] w fun e w' => e = .returned (.bool (goodGeo n s)) ∧ w' = w := by
  by_cases h1 : n < 1
  · have e : goodGeo n s = false := decide_eq_false (by omega)
    rw [e]
    go_enter Tryz.func37, Tryz.ntmps37
    go_wp2
    go_ret
    exact ⟨rfl, rfl⟩
  · by_cases h2 : 8192 < n
    · have e : goodGeo n s = false := decide_eq_false (by omega)
      rw [e]
      go_enter Tryz.func37, Tryz.ntmps37
      go_wp2
      go_ret
      exact ⟨rfl, rfl⟩
    · by_cases h3 : s < 128
      · have e : goodGeo n s = false := decide_eq_false (by omega)
        rw [e]
        go_enter Tryz.func37, Tryz.ntmps37
        go_wp2
        go_ret
        exact ⟨rfl, rfl⟩
      · by_cases h4 : 1024 < s
        · have e : goodGeo n s = false := decide_eq_false (by omega)
          rw [e]
          go_enter Tryz.func37, Tryz.ntmps37
          go_wp2
          go_ret
          exact ⟨rfl, rfl⟩
        · have ha := and_ok (n := n) (s := s) (by omega) (by omega) (by omega)
          rw [← ha]
          have HA := hide ha
          clear ha
          go_enter Tryz.func37, Tryz.ntmps37
          go_wp2
          go_ret
          exact ⟨rfl, rfl⟩

/-- a medium whose blocks hold f -/
def MedRow (w : World) (mb nb : Nat) (f : Nat → List Nat) (g : Nat → Nat) : Prop :=
  w.heap[mb]? = some (.cells ((List.range nb).map fun i => sl (g i) (f i).length).toArray 22 (0, 0)) ∧ ∀ i, i < nb → PieceAt w (g i) (f i)

def St.fresh (nb sz : Nat) (f : Nat → List Nat) : St := { nb := nb, sz := sz, med := fun i => some (f i), cache := fun _ => [], off := false, fuse := -1, rd := 0, wr := 0, th := 0, fl := 0 }

theorem made_any (w : World) (nb sz mb : Nat) :
    Calls Tryz.prog 38 #[.int .i64 (nb : Int), .int .i64 (sz : Int), .slice (some ⟨mb, 0, none⟩) nb nb] w fun e w' => e = .returned (.pointer (some ⟨w.heap.size + 1, 0, none⟩)) ∧ w' = (w.alloc (.map #[] 0)).alloc (.cells #[.int .i64 (nb : Int), .int .i64 (sz : Int), .slice (some ⟨mb, 0, none⟩) nb nb, .map (some w.heap.size), .bool false, .int .i64 (-1), .int .i64 0, .int .i64 0, .int .i64 0, .int .i64 0] 101) := by
  have hmm := fun W : World => run_makeMap (P := Tryz.prog) 99 W
  go_enter Tryz.func38, Tryz.ntmps38
  go_wp2
  go_ret
  exact ⟨rfl, rfl⟩

theorem rep_made {w0 w : World} {nb sz mb : Nat} {f : Nat → List Nat} {g : Nat → Nat} (hb : Below w0.heap.size w0 w) (hm : MedRow w mb nb f g) (hmb : w0.heap.size ≤ mb) (hg : ∀ i, i < nb → w0.heap.size ≤ g i) (h1 : 1 ≤ nb) (h2 : nb ≤ 8192) (hs : sz = 128 ∨ sz = 256 ∨ sz = 512 ∨ sz = 1024) (hl : ∀ i, i < nb → (f i).length = sz) :
    Rep ((w.alloc (.map #[] 0)).alloc (.cells #[.int .i64 (nb : Int), .int .i64 (sz : Int), .slice (some ⟨mb, 0, none⟩) nb nb, .map (some w.heap.size), .bool false, .int .i64 (-1), .int .i64 0, .int .i64 0, .int .i64 0, .int .i64 0] 101)) ⟨w.heap.size + 1, mb, w.heap.size, fun b => w0.heap.size ≤ b ∧ b < w.heap.size + 2⟩ (St.fresh nb sz f) := by
  have k1 : ∀ b, b < w.heap.size → ((w.alloc (.map #[] 0)).alloc (.cells #[.int .i64 (nb : Int), .int .i64 (sz : Int), .slice (some ⟨mb, 0, none⟩) nb nb, .map (some w.heap.size), .bool false, .int .i64 (-1), .int .i64 0, .int .i64 0, .int .i64 0, .int .i64 0] 101)).heap[b]? = w.heap[b]? := fun b hb' => by
    rw [Below.heap_alloc _ _ b (by simp; omega), Below.heap_alloc _ _ b hb']
  have hml : mb < w.heap.size := (Array.getElem?_eq_some_iff.1 hm.1).1
  have hsz := hb.size
  refine ⟨fun _ => nilS, .map [], ?_, ?_⟩
  · exact ((World.ownsMap_made w Tryz.prog 3 Rv).mono (Nat.zero_le _)).alloc _
  · refine ⟨h1, h2, hs, by simp [St.fresh], Go.heap_alloc_new (w.alloc (.map #[] 0)) _ |> fun h => by simpa [diskRow, St.fresh] using h, ⟨_, (k1 mb hml).trans hm.1, by simp [St.fresh], fun i hi => ?_⟩, fun i l hi hl' => ?_, fun i l _ hl' => ?_, fun kl hkl => ?_, fun k hk => ?_, fun k hk => rfl, fun k hk => ?_, fun k j _ _ _ gg h => ?_, fun k _ => by simp [nilS, Value.ownBlock], ?_, ?_, ?_, fun b hb' => ?_⟩
    · have hi' : i < nb := hi
      refine ⟨sl (g i) (f i).length, by simp [hi'], ?_⟩
      have hp := hm.2 i hi'
      exact ⟨g i, rfl, hp.kept (k1 _ hp.lt), hg i hi', by have := hp.lt; show g i < w.heap.size + 2; omega⟩
    · simp only [St.fresh, Option.some.injEq] at hl'
      rw [← hl']; exact hl i hi
    · simp [St.fresh] at hl'
    · simp [has] at hkl
    · simp [has, St.fresh]
    · exact ⟨[], rfl, World.ownsRow_nil _ 0 22 1, by simp [St.fresh], by simp [nilS, Value.ownBlock], fun _ => rfl⟩
    · simp [nilS, Value.ownBlock] at h
    · exact ⟨by show w0.heap.size ≤ w.heap.size + 1; omega, by show w.heap.size + 1 < w.heap.size + 2; omega⟩
    · exact ⟨hmb, by show mb < w.heap.size + 2; omega⟩
    · exact ⟨hsz, by show w.heap.size < w.heap.size + 2; omega⟩
    · simp only [World.size_alloc]
      have : b < w.heap.size + 2 := hb'.2
      omega
end Go.Proofs.YtlpmpicmpklaoacGreat
