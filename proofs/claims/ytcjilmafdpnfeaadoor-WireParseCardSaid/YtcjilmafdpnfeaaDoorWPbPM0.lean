import Derived.Test.YtcjilmafdpnfeaaDoorWQa
import Derived.Test.YtcjilmafdpnfeaaDoorWEncP
import Derived.Deep.RegionLaw
import Derived.Deep.AppendLies
import Derived.Test.YtcjilmafdpnfeaaDoorWRead
import Derived.Test.YtcjilmafdpnfeaaDoorWRoom
import Derived.Test.YtcjilmafdpnfeaaDoorWDec4
import Derived.Test.YtcjilmafdpnfeaaDoorWLaw0
namespace Go.Proofs.YtcjilmafdpnfeaaDoor
open Go.RowKit
set_option linter.unusedVariables false
set_option linter.unusedSimpArgs false
set_option maxRecDepth 20000

def flgL (c : Nat) : List (Nat × Nat) := if c = 5 then [(0, 31)] else if c = 6 then [(0, 1), (4, 5), (8, 9)] else if c = 12 then [(1, 255)] else if c = 15 ∨ c = 21 then [(0, 1)] else if c = 25 then [(0, 255)] else [(0, 4294967295)]
def cntL (c a b : Nat) : List (Nat × Nat) := if c = 1 then [(a, 4294967295)] else if c = 4 then [(128, 128), (256, 256), (512, 512), (1024, 1024)] else if c = 5 then [(0, 4096)] else if c = 7 then [(1, min 8 (64 - b))] else if c = 13 ∨ c = 14 then [(1, 64)] else [(0, 4294967295)]
def lenL (c e : Nat) : List (Nat × Nat) := if c = 2 then [(16, 16)] else if c = 7 then [(1, 256)] else if c = 25 ∧ e ≠ 0 then [(0, 0)] else [(1, 1024)]
/-- what a number of command c may be: i, its place among the five -/
def nmsL (c i a b : Nat) : List (Nat × Nat) :=
  if i = 0 then (if c = 1 then [(0, 4294967295)] else [(1, 2147483647)])
  else if i = 1 then (if c = 4 then [(1, 4096)] else if c = 7 then [(0, 63)] else [(0, 4095)])
  else if i = 2 then [(1, 4294967295)]
  else if i = 3 then cntL c a b else flgL c
def SpP (w : World) (l : List (Nat × Nat)) (e : Ending) (w' : World) : Prop := ∃ v, e = .returned v ∧ SpI w' v l ∧ Below w.heap.size w w'
theorem spp1 {w w1 : World} (hb : Below w.heap.size w w1) (lo hi : Nat) (h1 : lo < 4294967296) (h2 : hi < 4294967296) (v : Value) (w2 : World) (hw : w2 = w1.alloc (.cells #[.int .i64 (lo : Int), .int .i64 (hi : Int)] 93)) (hv : v = .slice (some ⟨w1.heap.size, 0, none⟩) 1 1) : SpP w [(lo, hi)] (.returned v) w2 := by
  subst hw hv
  exact ⟨_, rfl, SpI.one lo hi h1 h2 _, hb.alloc hb.size _⟩
theorem sppn {w w1 : World} (hb : Below w.heap.size w w1) (l : List (Nat × Nat)) (cs : Array Value) (hl : l.length ≤ 4) (hbb : ∀ q ∈ l, q.1 < 4294967296 ∧ q.2 < 4294967296) (hcs : ∀ i, i < l.length → cs[2 * i]? = some (.int .i64 ((l.getD i (0, 0)).1 : Nat)) ∧ cs[2 * i + 1]? = some (.int .i64 ((l.getD i (0, 0)).2 : Nat))) (v : Value) (w2 : World) (hw : w2 = w1.alloc (.cells cs 93)) (hv : v = .slice (some ⟨w1.heap.size, 0, none⟩) l.length l.length) : SpP w l (.returned v) w2 := by
  subst hw hv
  exact ⟨_, rfl, SpI.lit l _ hl hbb cs hcs, hb.alloc hb.size _⟩

set_option maxHeartbeats 2000000 in
theorem flags_any (w : World) (c : Nat) : Calls Tryd.prog 34 #[.int .i64 (c : Int)] w fun e w' => SpP w (flgL c) e w' := by
  by_cases h5 : c = 5
  · subst h5
    rw [show flgL 5 = [(0, 31)] from rfl]
    go_enter Tryd.func34, Tryd.ntmps34
    go_wp2
    go_ret
    exact spp1 (Below.refl _ _) 0 31 (by omega) (by omega) _ _ (by first | rfl | simp) (by first | rfl | simp)
  by_cases h6 : c = 6
  · subst h6
    rw [show flgL 6 = [(0, 1), (4, 5), (8, 9)] from rfl]
    go_enter Tryd.func34, Tryd.ntmps34
    go_wp2
    go_ret
    exact sppn (Below.refl _ _) [(0, 1), (4, 5), (8, 9)] #[.int .i64 0, .int .i64 1, .int .i64 4, .int .i64 5, .int .i64 8, .int .i64 9] (by decide) (by decide) (by intro i hi; have hi : i < 3 := hi; rcases (show i = 0 ∨ i = 1 ∨ i = 2 by omega) with rfl | rfl | rfl <;> exact ⟨rfl, rfl⟩) _ _ (by first | rfl | simp) (by first | rfl | simp)
  by_cases h12 : c = 12
  · subst h12
    rw [show flgL 12 = [(1, 255)] from rfl]
    go_enter Tryd.func34, Tryd.ntmps34
    go_wp2
    go_ret
    exact spp1 (Below.refl _ _) 1 255 (by omega) (by omega) _ _ (by first | rfl | simp) (by first | rfl | simp)
  by_cases h15 : c = 15
  · subst h15
    rw [show flgL 15 = [(0, 1)] from rfl]
    go_enter Tryd.func34, Tryd.ntmps34
    go_wp2
    go_ret
    exact spp1 (Below.refl _ _) 0 1 (by omega) (by omega) _ _ (by first | rfl | simp) (by first | rfl | simp)
  by_cases h21 : c = 21
  · subst h21
    rw [show flgL 21 = [(0, 1)] from rfl]
    go_enter Tryd.func34, Tryd.ntmps34
    go_wp2
    go_ret
    exact spp1 (Below.refl _ _) 0 1 (by omega) (by omega) _ _ (by first | rfl | simp) (by first | rfl | simp)
  by_cases h25 : c = 25
  · subst h25
    rw [show flgL 25 = [(0, 255)] from rfl]
    go_enter Tryd.func34, Tryd.ntmps34
    go_wp2
    go_ret
    exact spp1 (Below.refl _ _) 0 255 (by omega) (by omega) _ _ (by first | rfl | simp) (by first | rfl | simp)
  · rw [show flgL c = [(0, 4294967295)] by unfold flgL; simp [h5, h6, h12, h15, h21, h25]]
    have b5 : ((c : Int) == 5) = false := by simp only [beq_eq_false_iff_ne]; omega
    have b6 : ((c : Int) == 6) = false := by simp only [beq_eq_false_iff_ne]; omega
    have b12 : ((c : Int) == 12) = false := by simp only [beq_eq_false_iff_ne]; omega
    have b15 : ((c : Int) == 15) = false := by simp only [beq_eq_false_iff_ne]; omega
    have b21 : ((c : Int) == 21) = false := by simp only [beq_eq_false_iff_ne]; omega
    have b25 : ((c : Int) == 25) = false := by simp only [beq_eq_false_iff_ne]; omega
    go_enter Tryd.func34, Tryd.ntmps34
    go_wp2
    go_ret
    exact spp1 (Below.refl _ _) 0 4294967295 (by omega) (by omega) _ _ (by first | rfl | simp) (by first | rfl | simp)

set_option maxHeartbeats 2000000 in
theorem lengths_any (w : World) (c : Nat) (c0 : Int) (p : PV) (v : Value) (hp : p.Ok) : Calls Tryd.prog 31 #[.int .i64 (c : Int), pkV c0 p v] w fun e w' => SpP w (lenL c p.e) e w' := by
  have HK : KM (w.alloc (.cells (.int .i64 c0 :: p.row v).toArray 30)) w.heap.size c0 p v := ⟨Go.heap_alloc_new w _, hp⟩
  have HB := hide ((Below.refl w.heap.size w).alloc (Nat.le_refl _) (.cells (.int .i64 c0 :: p.row v).toArray 30))
  obtain ⟨e0, e1, e2, e3, e4, e5, _⟩ := HK.cells
  have ha := hp.a
  have hbb := hp.b
  clear HK
  unfold pkV
  generalize (.int .i64 c0 :: p.row v) = LS at *
  clear ha hbb
  generalize p.e = e at *
  by_cases h2 : c = 2
  · subst h2
    rw [show lenL 2 e = [(16, 16)] from rfl]
    go_enter Tryd.func31, Tryd.ntmps31
    go_wp2
    go_ret
    exact spp1 (HB.out) 16 16 (by omega) (by omega) _ _ (by first | rfl | simp) (by first | rfl | simp)
  by_cases h7 : c = 7
  · subst h7
    rw [show lenL 7 e = [(1, 256)] from rfl]
    go_enter Tryd.func31, Tryd.ntmps31
    go_wp2
    go_ret
    exact spp1 (HB.out) 1 256 (by omega) (by omega) _ _ (by first | rfl | simp) (by first | rfl | simp)
  by_cases h25 : c = 25
  · subst h25
    by_cases he : e = 0
    · subst he
      rw [show lenL 25 0 = [(1, 1024)] from rfl]
      go_enter Tryd.func31, Tryd.ntmps31
      go_wp2
      go_ret
      exact spp1 (HB.out) 1 1024 (by omega) (by omega) _ _ (by first | rfl | simp) (by first | rfl | simp)
    · rw [show lenL 25 e = [(0, 0)] by unfold lenL; simp [he]]
      have be : ((e : Int) == 0) = false := by simp only [beq_eq_false_iff_ne]; omega
      go_enter Tryd.func31, Tryd.ntmps31
      go_wp2
      go_ret
      exact spp1 (HB.out) 0 0 (by omega) (by omega) _ _ (by first | rfl | simp) (by first | rfl | simp)
  · rw [show lenL c e = [(1, 1024)] by unfold lenL; simp [h2, h7, h25]]
    have b2 : ((c : Int) == 2) = false := by simp only [beq_eq_false_iff_ne]; omega
    have b7 : ((c : Int) == 7) = false := by simp only [beq_eq_false_iff_ne]; omega
    have b25 : ((c : Int) == 25) = false := by simp only [beq_eq_false_iff_ne]; omega
    go_enter Tryd.func31, Tryd.ntmps31
    go_wp2
    go_ret
    exact spp1 (HB.out) 1 1024 (by omega) (by omega) _ _ (by first | rfl | simp) (by first | rfl | simp)

set_option maxHeartbeats 2000000 in
theorem counts_any (w : World) (c : Nat) (c0 : Int) (p : PV) (v : Value) (hp : p.Ok) (h64 : c = 7 → p.b ≤ 64) : Calls Tryd.prog 33 #[.int .i64 (c : Int), pkV c0 p v] w fun e w' => SpP w (cntL c p.a p.b) e w' := by
  have HK : KM (w.alloc (.cells (.int .i64 c0 :: p.row v).toArray 30)) w.heap.size c0 p v := ⟨Go.heap_alloc_new w _, hp⟩
  have HB := hide ((Below.refl w.heap.size w).alloc (Nat.le_refl _) (.cells (.int .i64 c0 :: p.row v).toArray 30))
  obtain ⟨e0, e1, e2, e3, e4, e5, _⟩ := HK.cells
  have ha := hp.a
  have hbb := hp.b
  clear HK
  unfold pkV
  generalize (.int .i64 c0 :: p.row v) = LS at *
  generalize p.a = a at *
  generalize p.b = b at *
  by_cases h1 : c = 1
  · subst h1
    rw [show cntL 1 a b = [(a, 4294967295)] from rfl]
    have hwa : IntKind.i64.wrap (a : Int) = (a : Int) := by simp [IntKind.wrap, IntKind.bits, IntKind.signed]; omega
    go_enter Tryd.func33, Tryd.ntmps33
    go_wp2
    go_ret
    exact spp1 (HB.out) a 4294967295 (by omega) (by omega) _ _ (by first | rfl | simp) (by first | rfl | simp)
  by_cases h4 : c = 4
  · subst h4
    rw [show cntL 4 a b = [(128, 128), (256, 256), (512, 512), (1024, 1024)] from rfl]
    go_enter Tryd.func33, Tryd.ntmps33
    go_wp2
    go_ret
    exact sppn (HB.out) [(128, 128), (256, 256), (512, 512), (1024, 1024)] #[.int .i64 128, .int .i64 128, .int .i64 256, .int .i64 256, .int .i64 512, .int .i64 512, .int .i64 1024, .int .i64 1024] (by decide) (by decide) (by intro i hi; have hi : i < 4 := hi; rcases (show i = 0 ∨ i = 1 ∨ i = 2 ∨ i = 3 by omega) with rfl | rfl | rfl | rfl <;> exact ⟨rfl, rfl⟩) _ _ (by first | rfl | simp) (by first | rfl | simp)
  by_cases h5 : c = 5
  · subst h5
    rw [show cntL 5 a b = [(0, 4096)] from rfl]
    go_enter Tryd.func33, Tryd.ntmps33
    go_wp2
    go_ret
    exact spp1 (HB.out) 0 4096 (by omega) (by omega) _ _ (by first | rfl | simp) (by first | rfl | simp)
  by_cases h13 : c = 13
  · subst h13
    rw [show cntL 13 a b = [(1, 64)] from rfl]
    go_enter Tryd.func33, Tryd.ntmps33
    go_wp2
    go_ret
    exact spp1 (HB.out) 1 64 (by omega) (by omega) _ _ (by first | rfl | simp) (by first | rfl | simp)
  by_cases h14 : c = 14
  · subst h14
    rw [show cntL 14 a b = [(1, 64)] from rfl]
    go_enter Tryd.func33, Tryd.ntmps33
    go_wp2
    go_ret
    exact spp1 (HB.out) 1 64 (by omega) (by omega) _ _ (by first | rfl | simp) (by first | rfl | simp)
  by_cases h7 : c = 7
  · subst h7
    have hb64 := h64 rfl
    by_cases hb8 : b < 56
    · rw [show cntL 7 a b = [(1, 8)] by unfold cntL; simp; omega]
      go_enter Tryd.func33, Tryd.ntmps33
      go_wp2
      go_ret
      exact spp1 (HB.out) 1 8 (by omega) (by omega) _ _ (by first | rfl | simp) (by first | rfl | simp)
    · obtain ⟨m, hm⟩ : ∃ m : Nat, 64 - b = m := ⟨_, rfl⟩
      rw [show cntL 7 a b = [(1, m)] by unfold cntL; simp; omega]
      obtain rfl : b = 64 - m := by omega
      have hms : (64 : Int) - ((64 - m : Nat) : Int) = (m : Int) := by omega
      go_enter Tryd.func33, Tryd.ntmps33
      go_wp2
      go_ret
      exact spp1 (HB.out) 1 m (by omega) (by omega) _ _ (by first | rfl | simp) (by first | rfl | simp)
  · rw [show cntL c a b = [(0, 4294967295)] by unfold cntL; simp [h1, h4, h5, h7, h13, h14]]
    have b1 : ((c : Int) == 1) = false := by simp only [beq_eq_false_iff_ne]; omega
    have b4 : ((c : Int) == 4) = false := by simp only [beq_eq_false_iff_ne]; omega
    have b5 : ((c : Int) == 5) = false := by simp only [beq_eq_false_iff_ne]; omega
    have b7 : ((c : Int) == 7) = false := by simp only [beq_eq_false_iff_ne]; omega
    have b13 : ((c : Int) == 13) = false := by simp only [beq_eq_false_iff_ne]; omega
    have b14 : ((c : Int) == 14) = false := by simp only [beq_eq_false_iff_ne]; omega
    go_enter Tryd.func33, Tryd.ntmps33
    go_wp2
    go_ret
    exact spp1 (HB.out) 0 4294967295 (by omega) (by omega) _ _ (by first | rfl | simp) (by first | rfl | simp)
end Go.Proofs.YtcjilmafdpnfeaaDoor
namespace Go.Proofs.YtcjilmafdpnfeaaDoor
open Go.RowKit
set_option linter.unusedVariables false
set_option linter.unusedSimpArgs false
set_option maxRecDepth 20000

theorem step_callTo {P : Program} {ops : Array Oper} {o : Oper} {a : Act} {w : World} {K : Act → World → Prop} {Q : Exit → Act → World → Prop} {E : Prop} (hg : o.guard = none) (f : FuncId) (args : Array Value) (hrun : (execOp a.eval o).run P w = .ok (.enter f args) w)
    {post : Ending → World → Prop} (hc : Calls P f args w post) (hp : ∀ e w', post e w' → ∃ v, e = .returned v) (h : ∀ v w', post (.returned v) w' → K (a.put o.dst v) w') :
    if Region.wanted o (yielded ops a.tmps) = true then Oper.wp P o a w K Q else E := by
  have hw : Region.wanted o (yielded ops a.tmps) = true := by simp [Region.wanted, hg]
  rw [if_pos hw]
  unfold Oper.wp
  rw [hrun, Oper.upon_enter]
  refine hc.mono fun e w'' hh => ?_
  obtain ⟨v, rfl⟩ := hp e w'' hh
  exact h v w'' hh

theorem rdN_le (l : List Nat) (L : List (Nat × Nat)) : ∀ k v at', at' ≤ l.length → at' ≤ (rdN l L k v at').2.1 ∧ (rdN l L k v at').2.1 ≤ l.length
  | 0, v, at', h => ⟨Nat.le_refl _, h⟩
  | k + 1, v, at', h => by
    rw [rdN]
    split
    · exact ⟨Nat.le_refl _, h⟩
    · split
      · have := rdN_le l L k (v * 256 + l.getD at' 0) (at' + 1) (by omega)
        exact ⟨by omega, this.2⟩
      · exact ⟨Nat.le_refl _, h⟩
theorem rdN_lt (l : List Nat) (L : List (Nat × Nat)) (hb : ∀ x ∈ l, x < 256) : ∀ k j v at', v < 256 ^ j → (rdN l L k v at').1 < 256 ^ (j + k)
  | 0, j, v, at', h => h
  | k + 1, j, v, at', h => by
    rw [rdN]
    have hp : 0 < 256 ^ (j + (k + 1)) := Nat.pow_pos (by decide)
    split
    · exact hp
    · rename_i hl
      split
      · have hx : l.getD at' 0 < 256 := hb _ (by simp [List.getD, show at' < l.length by omega])
        have := rdN_lt l L hb k (j + 1) (v * 256 + l.getD at' 0) (at' + 1) (by rw [Nat.pow_succ]; omega)
        rwa [show j + (k + 1) = j + 1 + k by omega]
      · exact hp
theorem rdS_le {l : List Nat} {L : List (Nat × Nat)} {k at' : Nat} {stuck : Bool} (h : at' ≤ l.length) : at' ≤ (rdS l L k at' stuck).2.1 ∧ (rdS l L k at' stuck).2.1 ≤ l.length := by
  unfold rdS
  split
  · exact ⟨Nat.le_refl _, h⟩
  · exact rdN_le l L k 0 at' h
theorem rdS_lt {l : List Nat} {L : List (Nat × Nat)} {k at' : Nat} {stuck : Bool} (hb : ∀ x ∈ l, x < 256) : (rdS l L k at' stuck).1 < 256 ^ k := by
  unfold rdS
  split
  · exact Nat.pow_pos (by decide)
  · have := rdN_lt l L hb k 0 0 at' (by decide)
    rwa [Nat.zero_add] at this

/-- bytes of which nothing is said -/
def tkR (l : List Nat) (at' : Nat) (stuck : Bool) (c : Nat) : List Nat × Nat × Bool := if stuck = true ∨ c = 0 then ([], at', stuck) else if l.length - at' < c then ([], l.length, true) else (sg l at' c, at' + c, false)
/-- a digest, byte by byte -/
def sumF (l : List Nat) (L : List (Nat × Nat)) (s0 : List Nat) (at0 : Nat) (st0 : Bool) : Nat → List Nat × Nat × Bool
  | 0 => (s0, at0, st0)
  | k + 1 => ((sumF l L s0 at0 st0 k).1.set k (rdS l L 1 (sumF l L s0 at0 st0 k).2.1 (sumF l L s0 at0 st0 k).2.2).1, (rdS l L 1 (sumF l L s0 at0 st0 k).2.1 (sumF l L s0 at0 st0 k).2.2).2)
/-- a field read -/
def fieldF (l : List Nat) (p : PV) (at' : Nat) (stuck : Bool) : Fd → PV × Nat × Bool
  | .num n => (p.set (bnd n).1 (rdS l (mayL n p.a p.b) 4 at' stuck).1, (rdS l (mayL n p.a p.b) 4 at' stuck).2)
  | .ids =>
    let r0 := rdS l [(0, 18446744073709551615)] 8 at' stuck
    let r1 := rdS l [(0, 18446744073709551615)] 8 r0.2.1 r0.2.2
    let r2 := rdS l [(0, 18446744073709551615)] 8 r1.2.1 r1.2.2
    let r3 := rdS l [(0, 18446744073709551615)] 8 r2.2.1 r2.2.2
    ({ p with g0 := r0.1, g1 := r1.1, g2 := r2.1, g3 := r3.1 }, r3.2)
  | .sum t => ({ p with s := (sumF l (smayL t p.e) p.s at' stuck 32).1 }, (sumF l (smayL t p.e) p.s at' stuck 32).2)
  | .dat lo hi t =>
    let r := rdS l (dmayL lo hi t p.e) 2 at' stuck
    ({ p with dl := (tkR l r.2.1 r.2.2 r.1).1 }, (tkR l r.2.1 r.2.2 r.1).2)

/-- only the blocks rb, pb and new ones have turned -/
structure Ot2 (rb pb : Nat) (w x : World) : Prop where
  os : x.os = w.os
  tape : x.tape = w.tape
  output : x.output = w.output
  size : w.heap.size ≤ x.heap.size
  block : ∀ j, j < w.heap.size → j ≠ rb → j ≠ pb → x.heap[j]? = w.heap[j]?
theorem Ot2.refl (rb pb : Nat) (w : World) : Ot2 rb pb w w := ⟨rfl, rfl, rfl, Nat.le_refl _, fun _ _ _ _ => rfl⟩
theorem Ot2.below {rb pb : Nat} {w x y : World} (h : Ot2 rb pb w x) (hb : Below x.heap.size x y) : Ot2 rb pb w y := ⟨hb.os.trans h.os, hb.tape.trans h.tape, hb.output.trans h.output, Nat.le_trans h.size hb.size, fun j h1 h2 h3 => (hb.block j (Nat.lt_of_lt_of_le h1 h.size)).trans (h.block j h1 h2 h3)⟩
theorem Ot2.left {rb pb : Nat} {w x y : World} (h : Ot2 rb pb w x) (ho : Oth rb x y) : Ot2 rb pb w y := ⟨ho.os.trans h.os, ho.tape.trans h.tape, ho.output.trans h.output, Nat.le_trans h.size ho.size, fun j h1 h2 h3 => (ho.block j (Nat.lt_of_lt_of_le h1 h.size) h2).trans (h.block j h1 h2 h3)⟩
theorem Ot2.right {rb pb : Nat} {w x y : World} (h : Ot2 rb pb w x) (ho : Oth pb x y) : Ot2 rb pb w y := ⟨ho.os.trans h.os, ho.tape.trans h.tape, ho.output.trans h.output, Nat.le_trans h.size ho.size, fun j h1 h2 h3 => (ho.block j (Nat.lt_of_lt_of_le h1 h.size) h3).trans (h.block j h1 h2 h3)⟩
theorem Own.stayD {w w' : World} {base : Nat} {v : Value} {l : List Nat} (h : Own w base v l) (hb : ∀ g, v.ownBlock = some g → w'.heap[g]? = w.heap[g]?) : Own w' base v l := by
  refine ⟨⟨h.1.1, ?_⟩, h.2⟩
  rcases h.1.2 with h0 | ⟨g, cap, cur, rfl, h1, hg, r⟩
  · exact .inl h0
  · exact .inr ⟨g, cap, cur, rfl, h1, by rw [hb g rfl]; exact hg, r⟩
theorem PV.set_dl (p : PV) (i x : Nat) : (p.set i x).dl = p.dl := by
  unfold PV.set
  split <;> rfl
/-- while a packet is read: B: what lay there before -/
structure DS (w x : World) (B rb pb b off cap : Nat) (l : List Nat) (at' : Nat) (stuck : Bool) (p : PV) (v : Value) : Prop where
  rd : Rd x rb b off cap l at' stuck
  pm : PM x pb p v
  tab : BTab x
  bel : Ot2 rb pb w x
  rp : rb ≠ pb
  hB : B ≤ rb ∧ B ≤ pb ∧ b < B ∧ 0 < B ∧ B ≤ x.heap.size
  vr : v.ownBlock ≠ some rb
  at_ : at' ≤ l.length
  vn : ∀ g, v.ownBlock = some g → B ≤ g ∧ g < x.heap.size
  ow : Own x B v p.dl
theorem DS.below {w x y : World} {B rb pb b off cap : Nat} {l : List Nat} {at' : Nat} {stuck : Bool} {p : PV} {v : Value} (h : DS w x B rb pb b off cap l at' stuck p v) (hb : Below x.heap.size x y) : DS w y B rb pb b off cap l at' stuck p v :=
  ⟨h.rd.below hb, h.pm.below hb, h.tab.below hb, h.bel.below hb, h.rp, ⟨h.hB.1, h.hB.2.1, h.hB.2.2.1, h.hB.2.2.2.1, Nat.le_trans h.hB.2.2.2.2 hb.size⟩, h.vr, h.at_, fun g hg => ⟨(h.vn g hg).1, Nat.lt_of_lt_of_le (h.vn g hg).2 hb.size⟩, h.ow.kept hb⟩
/-- the reader has gone on -/
theorem DS.num {w x y : World} {B rb pb b off cap : Nat} {l : List Nat} {at' at2 : Nat} {stuck st2 : Bool} {p : PV} {v : Value} (h : DS w x B rb pb b off cap l at' stuck p v) (hr : Rd y rb b off cap l at2 st2) (ho : Oth rb x y) (ha : at2 ≤ l.length) : DS w y B rb pb b off cap l at2 st2 p v := by
  obtain ⟨h1, h2, h3, h4, h5⟩ := h.hB
  exact ⟨hr, h.pm.oth ho (fun e => h.rp e.symm) h.vr, h.tab.oth ho (by omega), h.bel.left ho, h.rp, ⟨h1, h2, h3, h4, Nat.le_trans h5 ho.size⟩, h.vr, ha, fun g hg => ⟨(h.vn g hg).1, Nat.lt_of_lt_of_le (h.vn g hg).2 ho.size⟩, h.ow.stayD fun g hg => ho.block g (h.vn g hg).2 fun e => h.vr (e ▸ hg)⟩
/-- the parts have turned -/
theorem DS.put {w x y : World} {B rb pb b off cap : Nat} {l : List Nat} {at' : Nat} {stuck : Bool} {p p2 : PV} {v v2 : Value} (h : DS w x B rb pb b off cap l at' stuck p v) (hp : PM y pb p2 v2) (ho : Oth pb x y) (hv : v2.ownBlock ≠ some rb) (hvn : ∀ g, v2.ownBlock = some g → B ≤ g ∧ g < x.heap.size) (hvo : Own x B v2 p2.dl) : DS w y B rb pb b off cap l at' stuck p2 v2 := by
  obtain ⟨h1, h2, h3, h4, h5⟩ := h.hB
  have hl := (Array.getElem?_eq_some_iff.1 h.rd.row).1
  refine ⟨?_, hp, h.tab.oth ho (by omega), h.bel.right ho, h.rp, ⟨h1, h2, h3, h4, Nat.le_trans h5 ho.size⟩, hv, h.at_, fun g hg => ⟨(hvn g hg).1, Nat.lt_of_lt_of_le (hvn g hg).2 ho.size⟩, hvo.stayD fun g hg => ho.block g (hvn g hg).2 fun e => hp.ne (e ▸ hg)⟩
  exact h.rd.same (ho.block rb hl h.rp) (ho.block b (by omega) (by omega))
theorem DS.rebase {w x : World} {B rb pb b off cap : Nat} {l : List Nat} {at' : Nat} {stuck : Bool} {p : PV} {v : Value} (h : DS w x B rb pb b off cap l at' stuck p v) : DS x x B rb pb b off cap l at' stuck p v := ⟨h.rd, h.pm, h.tab, Ot2.refl _ _ _, h.rp, h.hB, h.vr, h.at_, h.vn, h.ow⟩
/-- what R.field does with a field -/
def FieldSpec (f : Fd) : Prop := ∀ (w x : World) (B rb pb b off cap : Nat) (l : List Nat) (at' : Nat) (stuck : Bool) (p : PV) (v : Value), DS w x B rb pb b off cap l at' stuck p v →
  Calls Tryd.prog 14 #[.pointer (some ⟨rb, 0, none⟩), f.val, .pointer (some ⟨pb, 0, none⟩)] x fun e y => e = .returned (.tuple #[]) ∧ ∃ v', DS w y B rb pb b off cap l (fieldF l p at' stuck f).2.1 (fieldF l p at' stuck f).2.2 (fieldF l p at' stuck f).1 v'

theorem spl_block {w : World} {v : Value} {L : List (Nat × Nat)} (h : SpL w v L) (hL : 0 < L.length) : ∃ b off cap, v = .slice (some ⟨b, off, none⟩) L.length cap ∧ b < w.heap.size := by
  obtain ⟨b, off, cap, rfl, h1, h2, h3, h4⟩ := h
  exact ⟨b, off, cap, rfl, World.block_lt_of_cell? w _ (h4 0 hL).1⟩
end Go.Proofs.YtcjilmafdpnfeaaDoor
namespace Go.Proofs.YtcjilmafdpnfeaaDoor
open Go.RowKit
set_option linter.unusedVariables false
set_option linter.unusedSimpArgs false
set_option maxRecDepth 20000

theorem spl_ne {w : World} {v : Value} {L : List (Nat × Nat)} {rb b off cap at' : Nat} {l : List Nat} {stuck : Bool} (h : SpL w v L) (hL : 0 < L.length) (hr : Rd w rb b off cap l at' stuck) : v.ownBlock ≠ some rb := by
  obtain ⟨b0, off0, cap0, rfl, h1, h2, h3, h4⟩ := h
  obtain ⟨c0, _⟩ := h4 0 hL
  intro e
  have e' : b0 = rb := by simpa [Value.ownBlock] using e
  subst e'
  rw [cell_of_row _ _ _ _ _ _ hr.row] at c0
  match off0, c0 with
  | 0, c0 => simp at c0
  | 1, c0 => simp at c0
  | 2, c0 => simp at c0
  | n + 3, c0 => simp at c0
theorem mayL_pos (n a b : Nat) : 0 < (mayL n a b).length := by
  unfold mayL
  split <;> try split <;> try split <;> try split
  all_goals simp
theorem smayL_pos (t : Bool) (e : Nat) : 0 < (smayL t e).length := by unfold smayL; split <;> simp
theorem dmayL_pos (lo hi : Nat) (t : Bool) (e : Nat) : 0 < (dmayL lo hi t e).length := by unfold dmayL; split <;> simp
/-- a number read while a packet is read -/
theorem ds_number {w x : World} {B rb pb b off cap : Nat} {l : List Nat} {at' : Nat} {stuck : Bool} {p : PV} {v : Value} (h : DS w x B rb pb b off cap l at' stuck p v) (sv : Value) (L : List (Nat × Nat)) (hs : SpL x sv L) (hL : 0 < L.length) (width : Nat) (hw : 0 < width) (hw8 : width ≤ 8) :
    Calls Tryd.prog 12 #[.pointer (some ⟨rb, 0, none⟩), .int .i64 (width : Int), sv] x fun e' y => e' = .returned (.int .u64 ((rdS l L width at' stuck).1 : Nat)) ∧ DS w y B rb pb b off cap l (rdS l L width at' stuck).2.1 (rdS l L width at' stuck).2.2 p v := by
  refine (number_all x rb b off cap at' width l L sv stuck h.rd hs (spl_ne hs hL h.rd) hw hw8 h.at_).mono ?_
  rintro e' y ⟨rfl, h1, h2⟩
  exact ⟨rfl, h.num h1 h2 (rdS_le h.at_).2⟩
theorem DS.drew {w x : World} {B rb pb b off cap : Nat} {l : List Nat} {at' : Nat} {stuck : Bool} {p : PV} {v : Value} (h : DS w x B rb pb b off cap l at' stuck p v) : DS w x.drew B rb pb b off cap l at' stuck p v := h.below ⟨rfl, rfl, rfl, Nat.le_refl _, fun _ _ => rfl⟩

set_option maxHeartbeats 2000000 in
theorem field_num (n : Nat) (hn : n < 18) : FieldSpec (.num n) := by
  intro w x B rb pb b off cap l at' stuck p v h
  have HD := hide h.drew
  obtain ⟨c0, c1, c2, c3, c4⟩ := HD.out.pm.five
  obtain ⟨t0, _, _⟩ := HD.out.tab n hn
  obtain ⟨hpl, _, _⟩ := bnd_lt n hn
  have HM := hide (may_any x.drew n p.a p.b p.c p.d p.e HD.out.tab hn h.pm.ok.a h.pm.ok.b)
  have HN := hide fun y sv (hy : DS w y B rb pb b off cap l at' stuck p v) (hs : SpL y sv (mayL n p.a p.b)) => ds_number hy sv _ hs (mayL_pos n p.a p.b) 4 (by decide) (by decide)
  have HX : Hid ((rdS l (mayL n p.a p.b) 4 at' stuck).1 < 4294967296) := hide (rdS_lt h.rd.hb)
  have HF1 : Hid ((fieldF l p at' stuck (.num n)) = (p.set (bnd n).1 (rdS l (mayL n p.a p.b) 4 at' stuck).1, (rdS l (mayL n p.a p.b) 4 at' stuck).2)) := hide rfl
  generalize hL : mayL n p.a p.b = L at *
  generalize hr : rdS l L 4 at' stuck = r at *
  have HCL : Hid (∀ at2 st2 y, DS w y B rb pb b off cap l at2 st2 p v → (y.cell? ⟨pb, 0, none⟩ = some (.int .u32 (p.a : Int)) ∧ y.cell? ⟨pb, 1, none⟩ = some (.int .u32 (p.b : Int)) ∧ y.cell? ⟨pb, 2, none⟩ = some (.int .u32 (p.c : Int)) ∧ y.cell? ⟨pb, 3, none⟩ = some (.int .u32 (p.d : Int)) ∧ y.cell? ⟨pb, 4, none⟩ = some (.int .u32 (p.e : Int))) ∧ y.cell? ⟨0, n * 3, none⟩ = some (.int .i64 ((bnd n).1 : Nat)) ∧ (∃ z, y.cell? ⟨pb, (bnd n).1, none⟩ = some z) ∧ y.frozen? ⟨pb, (bnd n).1, none⟩ = false) := hide fun at2 st2 y hy =>
    ⟨hy.pm.five, (hy.tab n hn).1, ⟨_, hy.pm.five.at hpl⟩, hy.pm.fz _⟩
  have HST : Hid (∀ y, DS w y B rb pb b off cap l r.2.1 r.2.2 p v → DS w (y.setCell ⟨pb, (bnd n).1, none⟩ (.int .u32 (r.1 : Int))) B rb pb b off cap l r.2.1 r.2.2 (p.set (bnd n).1 r.1) v) := hide fun y hy => hy.put (hy.pm.setN _ _ hpl HX.out) ((Oth.refl pb y).set _ _) hy.vr hy.vn (by rw [PV.set_dl]; exact hy.ow)
  have m1 := as_number_number
  unfold Fd.val
  unfold aheadV at HM
  generalize p.a = pa at *
  generalize p.b = pb' at *
  generalize p.c = pc at *
  generalize p.d = pd at *
  generalize p.e = pe at *
  generalize hbn : (bnd n).1 = pl at *
  have i1 : (n : Int) < 18 := by omega
  have i2 : (pl : Int) < 5 := by omega
  have hwx : IntKind.u32.wrap ((r.1 : Nat) : Int) = ((r.1 : Nat) : Int) := by have := HX.out; simp [IntKind.wrap, IntKind.bits, IntKind.signed]; omega
  rename_i dd1 dd2 dd3 dd4
  clear dd1 dd2 dd3 dd4 h hL hr hbn
  obtain ⟨r1, r2, r3⟩ := r
  simp only at *
  go_enter Tryd.func14, Tryd.ntmps14
  go_wp2_with fail
  go_region_law (first
    | (refine step_callTo rfl 20 #[.int .i64 (n : Int), .agg #[.int .u32 (pa : Int), .int .u32 (pb' : Int), .int .u32 (pc : Int), .int .u32 (pd : Int), .int .u32 (pe : Int)]] (by kernel_rfl) HM.out (fun e w' h => by obtain ⟨v, rfl, _⟩ := h; exact ⟨_, rfl⟩) ?_; rintro v4 w4 ⟨sv, hv4, hs4, hb4⟩; injection hv4 with hv4; subst hv4; have HD4 := hide (HD.out.below hb4); have HSP := hide hs4; obtain ⟨⟨d0, d1, d2, d3, d4⟩, d5, ⟨d7, d8⟩, d6⟩ := HCL.out _ _ _ HD4.out; clear hs4 hb4)
    | (refine step_callTo rfl 12 #[.pointer (some ⟨rb, 0, none⟩), .int .i64 4, v4] (by kernel_rfl) (HN.out _ _ HD4.out HSP.out) (fun e w' h => ⟨_, h.1⟩) ?_; rintro v5 w5 ⟨hv5, hd5⟩; injection hv5 with hv5; subst hv5; have HD5 := hide hd5; obtain ⟨⟨e0, e1, e2, e3, e4⟩, e5, ⟨e7, e8⟩, e6⟩ := HCL.out _ _ _ HD5.out; clear hd5))
  all_goals
    (try simp only [Exit.inBlock])
    go_end0
    exact ⟨rfl, v, by rw [HF1.out]; exact HST.out _ HD5.out⟩
end Go.Proofs.YtcjilmafdpnfeaaDoor
namespace Go.Proofs.YtcjilmafdpnfeaaDoor
open Go.RowKit
set_option linter.unusedVariables false
set_option linter.unusedSimpArgs false
set_option maxRecDepth 20000

theorem ds_ident {w x : World} {B rb pb b off cap : Nat} {l : List Nat} {at' : Nat} {stuck : Bool} {p : PV} {v : Value} (h : DS w x B rb pb b off cap l at' stuck p v) :
    Calls Tryd.prog 21 #[.pointer (some ⟨rb, 0, none⟩)] x fun e' y => e' = .returned (.int .u64 ((rdS l [(0, 18446744073709551615)] 8 at' stuck).1 : Nat)) ∧ DS w y B rb pb b off cap l (rdS l [(0, 18446744073709551615)] 8 at' stuck).2.1 (rdS l [(0, 18446744073709551615)] 8 at' stuck).2.2 p v := by
  refine (ident_any x rb b off cap at' l stuck h.rd h.at_).mono ?_
  rintro e' y ⟨rfl, h1, h2⟩
  exact ⟨rfl, h.num h1 h2 (rdS_le h.at_).2⟩
set_option maxHeartbeats 2000000 in
theorem field_ids : FieldSpec .ids := by
  intro w x B rb pb b off cap l at' stuck p v h
  have HD := hide (h.below ((Below.refl x.heap.size x).alloc (Nat.le_refl _) (.cells #[] 72)))
  have HB := h.rd.hb
  obtain ⟨r0, hr0⟩ : ∃ r, r = rdS l [(0, 18446744073709551615)] 8 at' stuck := ⟨_, rfl⟩
  obtain ⟨r1, hr1⟩ : ∃ r, r = rdS l [(0, 18446744073709551615)] 8 r0.2.1 r0.2.2 := ⟨_, rfl⟩
  obtain ⟨r2, hr2⟩ : ∃ r, r = rdS l [(0, 18446744073709551615)] 8 r1.2.1 r1.2.2 := ⟨_, rfl⟩
  obtain ⟨r3, hr3⟩ : ∃ r, r = rdS l [(0, 18446744073709551615)] 8 r2.2.1 r2.2.2 := ⟨_, rfl⟩
  have HF1 : Hid (fieldF l p at' stuck .ids = ({ p with g0 := r0.1, g1 := r1.1, g2 := r2.1, g3 := r3.1 }, r3.2)) := hide (by rw [hr3, hr2, hr1, hr0]; rfl)
  have HX : Hid (r0.1 < 18446744073709551616 ∧ r1.1 < 18446744073709551616 ∧ r2.1 < 18446744073709551616 ∧ r3.1 < 18446744073709551616) := hide ⟨by rw [hr0]; exact rdS_lt HB, by rw [hr1]; exact rdS_lt HB, by rw [hr2]; exact rdS_lt HB, by rw [hr3]; exact rdS_lt HB⟩
  have HI0 := hide (ds_ident HD.out)
  have HI1 := hide fun y (hy : DS w y B rb pb b off cap l r0.2.1 r0.2.2 p v) => ds_ident hy
  have HI2 := hide fun y (hy : DS w y B rb pb b off cap l r1.2.1 r1.2.2 p v) => ds_ident hy
  have HI3 := hide fun y (hy : DS w y B rb pb b off cap l r2.2.1 r2.2.2 p v) => ds_ident hy
  rw [← hr0] at HI0
  rw [← hr1] at HI1
  rw [← hr2] at HI2
  rw [← hr3] at HI3
  have HST : Hid (∀ y, DS w y B rb pb b off cap l r3.2.1 r3.2.2 p v → DS w ((((y.setCell ⟨pb, 5, none⟩ (.int .u64 (r0.1 : Int))).setCell ⟨pb, 6, none⟩ (.int .u64 (r1.1 : Int))).setCell ⟨pb, 7, none⟩ (.int .u64 (r2.1 : Int))).setCell ⟨pb, 8, none⟩ (.int .u64 (r3.1 : Int))) B rb pb b off cap l r3.2.1 r3.2.2 { p with g0 := r0.1, g1 := r1.1, g2 := r2.1, g3 := r3.1 } v) := hide fun y hy =>
    hy.put (hy.pm.setG _ _ _ _ HX.out.1 HX.out.2.1 HX.out.2.2.1 HX.out.2.2.2) (((((Oth.refl pb y).set 5 _).set 6 _).set 7 _).set 8 _) hy.vr hy.vn hy.ow
  have m1 := as_idents_number
  have m2 := as_idents_idents
  unfold Fd.val
  clear h hr0 hr1 hr2 hr3 HB
  obtain ⟨r01, r02, r03⟩ := r0
  obtain ⟨r11, r12, r13⟩ := r1
  obtain ⟨r21, r22, r23⟩ := r2
  obtain ⟨r31, r32, r33⟩ := r3
  simp only at *
  go_enter Tryd.func14, Tryd.ntmps14
  go_wp2_with (first
    | (go_at_call 21; refine HI0.out.mono ?_; rintro e' y0 ⟨rfl, hd0⟩; have HD0 := hide hd0; clear hd0 HI0)
    | (go_at_call 21; refine (HI1.out _ HD0.out).mono ?_; rintro e' y1 ⟨rfl, hd1⟩; have HD1 := hide hd1; clear hd1 HI1)
    | (go_at_call 21; refine (HI2.out _ HD1.out).mono ?_; rintro e' y2 ⟨rfl, hd2⟩; have HD2 := hide hd2; clear hd2 HI2)
    | (go_at_call 21; refine (HI3.out _ HD2.out).mono ?_; rintro e' y3 ⟨rfl, hd3⟩; have HD3 := hide hd3; obtain ⟨k5, k6, k7, k8⟩ := hd3.pm.gens; have f5 := hd3.pm.fz 5; have f6 := hd3.pm.fz 6; have f7 := hd3.pm.fz 7; have f8 := hd3.pm.fz 8; clear hd3 HI3))
  go_end0
  exact ⟨rfl, v, by rw [HF1.out]; exact HST.out _ HD3.out⟩

set_option maxHeartbeats 2000000 in
theorem take_any (w : World) (rb b off cap at' c : Nat) (l : List Nat) (stuck : Bool) (h : Rd w rb b off cap l at' stuck) (hc : c ≤ 65535) (ha : at' ≤ l.length) (hbl : b < w.heap.size) :
    Calls Tryd.prog 23 #[.pointer (some ⟨rb, 0, none⟩), .int .i64 (c : Int)] w fun e' w' => ∃ v', e' = .returned v' ∧ Own w' w.heap.size v' (tkR l at' stuck c).1 ∧ Rd w' rb b off cap l (tkR l at' stuck c).2.1 (tkR l at' stuck c).2.2 ∧ Oth rb w w' := by
  by_cases h0 : stuck = true ∨ c = 0
  · have e : tkR l at' stuck c = ([], at', stuck) := by unfold tkR; rw [if_pos h0]
    rw [e]
    refine (take_none w rb b off cap at' c l stuck h hc h0).mono ?_
    rintro e' w' ⟨rfl, h1, h2⟩
    exact ⟨_, rfl, own_nil _ _, h1, h2⟩
  · have hs : stuck = false := by cases stuck <;> simp_all
    subst hs
    have hc0 : c ≠ 0 := by simp_all
    have hcap := h.h2
    have hlc := h.h1
    unfold maxLen at hcap
    have HR := hide h
    obtain ⟨c0, c1, c2, f1, f2⟩ := h.cells
    have b1 : ((c : Int) == 0) = false := by simp only [beq_eq_false_iff_ne]; omega
    by_cases hl : l.length - at' < c
    · have e : tkR l at' false c = ([], l.length, true) := by unfold tkR; rw [if_neg h0, if_pos hl]
      rw [e]
      have i1 : (l.length : Int) - (at' : Int) < (c : Int) := by omega
      have HFIN : Hid (∀ k, Rd (((w.drewN k).setCell ⟨rb, 1, none⟩ (.int .i64 (l.length : Int))).setCell ⟨rb, 2, none⟩ (.bool true)) rb b off cap l l.length true) := hide fun k => (((h.same rfl rfl : Rd (w.drewN k) rb b off cap l at' false).go l.length).stop)
      clear h h0 e
      go_enter Tryd.func23, Tryd.ntmps23
      go_wp2
      repeat (go_quiet (fail); go_wp2)
      go_ret
      exact ⟨_, rfl, own_nil _ _, HFIN.out _, (((Oth.refl rb w).drewN _).set 1 _).set 2 _⟩
    · have e : tkR l at' false c = (sg l at' c, at' + c, false) := by unfold tkR; rw [if_neg h0, if_neg hl]
      rw [e]
      have hsl : (sg l at' c).length = c := sg_len (by omega)
      have hbs : BSl w (.slice (some ⟨b, off, none⟩) l.length cap) l := ⟨_, cap, rfl, hlc, by unfold maxLen; omega, (fun e => by cases e), h.hb, fun _ => ⟨b, off, rfl, h.dat⟩⟩
      have HCL := hide fun k => cloneB_any _ _ (w.drewN k) (BSl.seg hbs at' c (by omega)) (by rw [hsl]; omega) (by rw [hsl]; omega)
      have HFIN : Hid (∀ y, Below w.heap.size w y → Rd (y.setCell ⟨rb, 1, none⟩ (.int .i64 ((at' + c : Nat) : Int))) rb b off cap l (at' + c) false ∧ y.cell? ⟨rb, 1, none⟩ = some (.int .i64 (at' : Int)) ∧ y.frozen? ⟨rb, 1, none⟩ = false) := hide fun y hy => ⟨(h.below hy).go _, (h.below hy).cells.2.1, (h.below hy).cells.2.2.2.1⟩
      have HRB : Hid (rb < w.heap.size) := hide (Array.getElem?_eq_some_iff.1 h.row).1
      generalize sg l at' c = sl at *
      have i1 : ¬ (l.length : Int) - (at' : Int) < (c : Int) := by omega
      have i2 : (at' : Int) + (c : Int) ≤ (cap : Int) := by omega
      have i3 : (at' : Int) ≤ (at' : Int) + (c : Int) := by omega
      have i4 : ¬ cap = at' := by omega
      have i5 : IntKind.i64.wrap ((at' : Int) + (c : Int)) = (at' : Int) + (c : Int) := by simp [IntKind.wrap, IntKind.bits, IntKind.signed]; omega
      have i6 : (0 : Int) ≤ (at' : Int) := by omega
      have i7 : (0 : Int) ≤ (at' : Int) + (c : Int) := by omega
      have i8 : ((at' : Int) + (c : Int)).toNat = at' + c := by omega
      have i9 : at' + c - at' = c := by omega
      clear h h0 e hbs
      go_enter Tryd.func23, Tryd.ntmps23
      go_wp2
      go_quiet (fail)
      go_wp2_with fail
      go_region_held3 (fun y => y.cell? ⟨rb, 0, none⟩ = some (.slice (some ⟨b, off, none⟩) l.length cap) ∧ y.cell? ⟨rb, 1, none⟩ = some (.int .i64 (at' : Int))) (first | exact ⟨c0, c1⟩ | exact HSY.out)
        ((go_at_call 32; refine (HCL.out _).mono ?_; rintro e' y ⟨v', rfl, ho', hb'⟩; have HO2 := hide ho'; have HB2 : Hid (Below w.heap.size w y) := hide ((show Below w.heap.size w (w.drewN _) from ⟨rfl, rfl, rfl, Nat.le_refl _, fun _ _ => rfl⟩).trans hb'); obtain ⟨g1, g2, g3⟩ := HFIN.out y HB2.out; have G1 := hide g1; have HSY : Hid (y.cell? ⟨rb, 0, none⟩ = some (.slice (some ⟨b, off, none⟩) l.length cap) ∧ y.cell? ⟨rb, 1, none⟩ = some (.int .i64 (at' : Int))) := hide ⟨(HB2.out.cell (p := ⟨rb, 0, none⟩) HRB.out).trans c0, g2⟩; clear ho' hb' g1 HCL))
      all_goals
        go_wp2_with fail
        go_ret
        have hrb := HRB.out
        have how : Own (y.setCell ⟨rb, 1, none⟩ (.int .i64 ((at' : Int) + (c : Int)))) w.heap.size v' sl := by
          obtain ⟨g0, cap0, hv0, hg0, _⟩ := HO2.out.shape (by rw [hsl]; omega)
          have hg0 : w.heap.size ≤ g0 := hg0
          refine (show Own y w.heap.size v' sl from HO2.out).keptIf fun g hg => Go.heap_setCell_other _ _ _ _ ?_
          rw [hv0] at hg
          simp [Value.ownBlock] at hg
          show g ≠ rb
          omega
        have hrd := G1.out
        rw [Int.natCast_add] at hrd
        exact ⟨_, rfl, how, hrd, ((Oth.refl rb w).below HB2.out).set 1 _⟩

theorem Own.block {w : World} {base g : Nat} {v : Value} {l : List Nat} (h : Own w base v l) (hg : v.ownBlock = some g) : base ≤ g ∧ g < w.heap.size := by
  rcases h.1.2 with ⟨e, h0⟩ | ⟨g', cap, cur, rfl, hb, hg', _⟩
  · rw [e] at hg; simp [Value.ownBlock] at hg
  · simp [Value.ownBlock] at hg
    subst hg
    exact ⟨hb, (Array.getElem?_eq_some_iff.1 hg').1⟩
theorem tkR_le {l : List Nat} {at' c : Nat} {stuck : Bool} (h : at' ≤ l.length) : (tkR l at' stuck c).2.1 ≤ l.length := by
  unfold tkR
  split
  · exact h
  · split
    · exact Nat.le_refl _
    · simp; omega
/-- bytes taken while a packet is read -/
theorem ds_take {w x : World} {B rb pb b off cap : Nat} {l : List Nat} {at' : Nat} {stuck : Bool} {p : PV} {v : Value} (h : DS w x B rb pb b off cap l at' stuck p v) (c : Nat) (hc : c ≤ 65535) :
    Calls Tryd.prog 23 #[.pointer (some ⟨rb, 0, none⟩), .int .i64 (c : Int)] x fun e' y => ∃ v', e' = .returned v' ∧ DS w y B rb pb b off cap l (tkR l at' stuck c).2.1 (tkR l at' stuck c).2.2 p v ∧ BSl y v' (tkR l at' stuck c).1 ∧ v'.ownBlock ≠ some rb ∧ v'.ownBlock ≠ some pb ∧ (∀ g, v'.ownBlock = some g → B ≤ g ∧ g < y.heap.size) ∧ Own y B v' (tkR l at' stuck c).1 := by
  have h1 := h.hB
  have hrl := (Array.getElem?_eq_some_iff.1 h.rd.row).1
  have hpl := h.pm.lt
  refine (take_any x rb b off cap at' c l stuck h.rd hc h.at_ (by omega)).mono ?_
  rintro e' y ⟨v', rfl, ho, hr, hoth⟩
  refine ⟨v', rfl, h.num hr hoth (tkR_le h.at_), ho.bsl, ?_⟩
  refine ⟨fun e => ?_, fun e => ?_, fun g e => ?_, ho.low (by omega)⟩
  · have := (ho.block e).1; omega
  · have := (ho.block e).1; omega
  · have := ho.block e; exact ⟨by omega, this.2⟩
end Go.Proofs.YtcjilmafdpnfeaaDoor
namespace Go.Proofs.YtcjilmafdpnfeaaDoor
open Go.RowKit
set_option linter.unusedVariables false
set_option linter.unusedSimpArgs false
set_option maxRecDepth 20000

set_option maxHeartbeats 2000000 in
theorem field_dat (lo hi : Nat) (t : Bool) (hlo : lo < 65536) (hhi : hi < 65536) : FieldSpec (.dat lo hi t) := by
  intro w x B rb pb b off cap l at' stuck p v h
  have hb := (Below.refl x.heap.size x).alloc (Nat.le_refl _) (.cells #[.int .u64 (lo : Int), .int .u64 (hi : Int), .bool t] 68)
  have HD := hide (h.below hb).drew
  obtain ⟨c0, c1, c2, c3, c4⟩ := HD.out.pm.five
  have HROW : Hid ((x.alloc (.cells #[.int .u64 (lo : Int), .int .u64 (hi : Int), .bool t] 68)).drew.heap[x.heap.size]? = some (.cells #[.int .u64 (lo : Int), .int .u64 (hi : Int), .bool t] 68 (0, 0))) := hide (Go.heap_alloc_new x _)
  have a0 : (x.alloc (.cells #[.int .u64 (lo : Int), .int .u64 (hi : Int), .bool t] 68)).drew.cell? ⟨x.heap.size, 0, none⟩ = some (.int .u64 (lo : Int)) := by rw [cell_of_row _ _ _ _ _ _ HROW.out]; rfl
  have a1 : (x.alloc (.cells #[.int .u64 (lo : Int), .int .u64 (hi : Int), .bool t] 68)).drew.cell? ⟨x.heap.size, 1, none⟩ = some (.int .u64 (hi : Int)) := by rw [cell_of_row _ _ _ _ _ _ HROW.out]; rfl
  have a2 : (x.alloc (.cells #[.int .u64 (lo : Int), .int .u64 (hi : Int), .bool t] 68)).drew.cell? ⟨x.heap.size, 2, none⟩ = some (.bool t) := by rw [cell_of_row _ _ _ _ _ _ HROW.out]; rfl
  have HM := hide (dmay_any (x.alloc (.cells #[.int .u64 (lo : Int), .int .u64 (hi : Int), .bool t] 68)).drew lo hi t p.a p.b p.c p.d p.e (by omega) (by omega))
  have HN := hide fun y sv (hy : DS w y B rb pb b off cap l at' stuck p v) (hs : SpL y sv (dmayL lo hi t p.e)) => ds_number hy sv _ hs (dmayL_pos lo hi t p.e) 2 (by decide) (by decide)
  have HX : Hid ((rdS l (dmayL lo hi t p.e) 2 at' stuck).1 < 65536) := hide (rdS_lt h.rd.hb)
  have HF1 : Hid ((fieldF l p at' stuck (.dat lo hi t)) = ({ p with dl := (tkR l (rdS l (dmayL lo hi t p.e) 2 at' stuck).2.1 (rdS l (dmayL lo hi t p.e) 2 at' stuck).2.2 (rdS l (dmayL lo hi t p.e) 2 at' stuck).1).1 }, (tkR l (rdS l (dmayL lo hi t p.e) 2 at' stuck).2.1 (rdS l (dmayL lo hi t p.e) 2 at' stuck).2.2 (rdS l (dmayL lo hi t p.e) 2 at' stuck).1).2)) := hide rfl
  generalize hL : dmayL lo hi t p.e = L at *
  generalize hr : rdS l L 2 at' stuck = r at *
  have HTK := hide fun y (hy : DS w y B rb pb b off cap l r.2.1 r.2.2 p v) => ds_take hy r.1 (by have := HX.out; omega)
  have hwx : IntKind.i64.wrap ((r.1 : Nat) : Int) = ((r.1 : Nat) : Int) := by have := HX.out; simp [IntKind.wrap, IntKind.bits, IntKind.signed]; omega
  generalize hk : tkR l r.2.1 r.2.2 r.1 = k at *
  have HST : Hid (∀ y v', DS w y B rb pb b off cap l k.2.1 k.2.2 p v → BSl y v' k.1 → v'.ownBlock ≠ some rb → v'.ownBlock ≠ some pb → (∀ g, v'.ownBlock = some g → B ≤ g ∧ g < y.heap.size) → Own y B v' k.1 → DS w (y.setCell ⟨pb, 41, none⟩ v') B rb pb b off cap l k.2.1 k.2.2 { p with dl := k.1 } v') := hide fun y v' hy h1 h2 h3 h4 h5 => hy.put (hy.pm.setD v' k.1 h1 h3) ((Oth.refl pb y).set _ _) h2 h4 h5
  have m1 := as_data_number
  have m2 := as_data_idents
  have m3 := as_data_sumt
  have m4 := as_data_data
  unfold Fd.val
  unfold aheadV at HM
  generalize hpe : p.e = pe at *
  generalize hpa : p.a = pa at *
  generalize hpb : p.b = pb' at *
  generalize hpc : p.c = pc at *
  generalize hpd : p.d = pd at *
  clear h hL hr hb hk hpe hpa hpb hpc hpd
  obtain ⟨r1, r2, r3⟩ := r
  obtain ⟨k1, k2, k3⟩ := k
  simp only at *
  go_enter Tryd.func14, Tryd.ntmps14
  go_wp2_with fail
  go_region_law (first
    | (refine step_callTo rfl 24 #[.agg #[.int .u64 (lo : Int), .int .u64 (hi : Int), .bool t], .agg #[.int .u32 (pa : Int), .int .u32 (pb' : Int), .int .u32 (pc : Int), .int .u32 (pd : Int), .int .u32 (pe : Int)]] (by kernel_rfl) HM.out (fun e w' h => by obtain ⟨v, rfl, _⟩ := h; exact ⟨_, rfl⟩) ?_; rintro v4 w4 ⟨sv, hv4, hs4, hb4⟩; injection hv4 with hv4; subst hv4; have HD4 := hide (HD.out.below hb4); have HSP := hide hs4; clear hs4 hb4)
    | (refine step_callTo rfl 12 #[.pointer (some ⟨rb, 0, none⟩), .int .i64 2, v4] (by kernel_rfl) (HN.out _ _ HD4.out HSP.out) (fun e w' h => ⟨_, h.1⟩) ?_; rintro v5 w5 ⟨hv5, hd5⟩; injection hv5 with hv5; subst hv5; have HD5 := hide hd5; clear hd5)
    | (refine step_callTo rfl 23 #[.pointer (some ⟨rb, 0, none⟩), .int .i64 (r1 : Int)] (by kernel_rfl) (HTK.out _ HD5.out) (fun e w' h => by obtain ⟨v, rfl, _⟩ := h; exact ⟨_, rfl⟩) ?_; rintro v6 w6 ⟨v7, hv6, hd6, hs6, hn6, hn7, hn8, hn9⟩; injection hv6 with hv6; subst hv6; have HD6 := hide hd6; have HV6 := hide (⟨hs6, hn6, hn7, hn8, hn9⟩ : BSl w6 v6 k1 ∧ v6.ownBlock ≠ some rb ∧ v6.ownBlock ≠ some pb ∧ (∀ g, v6.ownBlock = some g → B ≤ g ∧ g < w6.heap.size) ∧ Own w6 B v6 k1); obtain ⟨da6, dc6, hsh, _, _, _, _, _⟩ := id hs6; subst hsh; have e8 := hd6.pm.dcell; have e9 := hd6.pm.fz 41; clear hd6 hs6 hn6 hn7 hn8 hn9))
  all_goals
    (try simp only [Exit.inBlock])
    go_end0
    exact ⟨rfl, _, by rw [HF1.out]; exact HST.out _ _ HD6.out HV6.out.1 HV6.out.2.1 HV6.out.2.2.1 HV6.out.2.2.2.1 HV6.out.2.2.2.2⟩
end Go.Proofs.YtcjilmafdpnfeaaDoor
namespace Go.Proofs.YtcjilmafdpnfeaaDoor
open Go.RowKit
set_option linter.unusedVariables false
set_option linter.unusedSimpArgs false
set_option maxRecDepth 20000

theorem row_set1 (p : PV) (v : Value) (k x : Nat) (hk : k < p.s.length) : (p.row v).set (9 + k) (.int .u8 (x : Int)) = PV.row { p with s := p.s.set k x } v := by
  rw [row_eq, row_eq, List.append_assoc, List.append_assoc, List.set_append_right _ _ (by simp), List.set_append_left _ _ (by simp [u8L_len]; exact hk)]
  simp [u8L]
theorem PM.setS1 {w : World} {pb : Nat} {p : PV} {v : Value} (h : PM w pb p v) (k x : Nat) (hk : k < 32) (hx : x < 256) : PM (w.setCell ⟨pb, 9 + k, none⟩ (.int .u8 (x : Int))) pb { p with s := p.s.set k x } v := by
  have hr := Go.heap_setCell_same w pb (9 + k) _ 49 (.int .u8 (x : Int)) h.row
  rw [List.setIfInBounds_toArray, row_set1 p v k x (by rw [h.ok.n]; exact hk)] at hr
  obtain ⟨h1, h2, h3, h4, h5, h6, h7, h8, h9, h10, h11⟩ := h.ok
  refine ⟨hr, ⟨h1, h2, h3, h4, h5, h6, h7, h8, h9, by simpa using h10, fun y hy => ?_⟩, h.dat.stay fun g hg => Go.heap_setCell_other _ _ _ _ (by intro e; exact h.ne (by rw [hg]; exact congrArg some e)), h.ne⟩
  rcases List.mem_or_eq_of_mem_set hy with e | e
  · exact h11 y e
  · rw [e]; exact hx
theorem ds_number2 {w x : World} {B rb pb b off cap : Nat} {l : List Nat} {at' : Nat} {stuck : Bool} {p : PV} {v : Value} (h : DS w x B rb pb b off cap l at' stuck p v) (sv : Value) (L : List (Nat × Nat)) (hs : SpL x sv L) (hL : 0 < L.length) (width : Nat) (hw : 0 < width) (hw8 : width ≤ 8) :
    Calls Tryd.prog 12 #[.pointer (some ⟨rb, 0, none⟩), .int .i64 (width : Int), sv] x fun e' y => e' = .returned (.int .u64 ((rdS l L width at' stuck).1 : Nat)) ∧ DS w y B rb pb b off cap l (rdS l L width at' stuck).2.1 (rdS l L width at' stuck).2.2 p v ∧ Oth rb x y := by
  refine (number_all x rb b off cap at' width l L sv stuck h.rd hs (spl_ne hs hL h.rd) hw hw8 h.at_).mono ?_
  rintro e' y ⟨rfl, h1, h2⟩
  exact ⟨rfl, h.num h1 h2 (rdS_le h.at_).2, h2⟩

/-- one byte of a digest -/
structure DT (w x : World) (B rb pb b off cap : Nat) (l : List Nat) (at' : Nat) (stuck : Bool) (p : PV) (v : Value) (tb : Nat) (t : Bool) : Prop where
  ds : DS w x B rb pb b off cap l at' stuck p v
  row : x.heap[tb]? = some (.cells #[.bool t] 70 (0, 0))
  ne : tb ≠ rb ∧ tb ≠ pb
theorem DT.below {w x y : World} {B rb pb b off cap : Nat} {l : List Nat} {at' : Nat} {stuck : Bool} {p : PV} {v : Value} {tb : Nat} {t : Bool} (h : DT w x B rb pb b off cap l at' stuck p v tb t) (hb : Below x.heap.size x y) : DT w y B rb pb b off cap l at' stuck p v tb t :=
  ⟨h.ds.below hb, (hb.block _ (Array.getElem?_eq_some_iff.1 h.row).1).trans h.row, h.ne⟩
theorem DT.drew {w x : World} {B rb pb b off cap : Nat} {l : List Nat} {at' : Nat} {stuck : Bool} {p : PV} {v : Value} {tb : Nat} {t : Bool} (h : DT w x B rb pb b off cap l at' stuck p v tb t) : DT w x.drew B rb pb b off cap l at' stuck p v tb t := h.below ⟨rfl, rfl, rfl, Nat.le_refl _, fun _ _ => rfl⟩

set_option maxHeartbeats 4000000 in
theorem field_sum (t : Bool) : FieldSpec (.sum t) := by
  intro w x B rb pb b off cap l at' stuck p v h
  have hb := (Below.refl x.heap.size x).alloc (Nat.le_refl _) (.cells #[.bool t] 70)
  have HD : Hid (DT w (x.alloc (.cells #[.bool t] 70)) B rb pb b off cap l at' stuck p v x.heap.size t) := hide ⟨h.below hb, Go.heap_alloc_new x _, by have := (Array.getElem?_eq_some_iff.1 h.rd.row).1; have := h.pm.lt; omega⟩
  have HB := hide h.rd.hb
  obtain ⟨F, hF⟩ : ∃ F : Nat → List Nat × Nat × Bool, F = sumF l (smayL t p.e) p.s at' stuck := ⟨_, rfl⟩
  have HF1 : Hid (fieldF l p at' stuck (.sum t) = ({ p with s := (F 32).1 }, (F 32).2)) := hide (by rw [hF]; rfl)
  have HF0 : Hid (F 0 = (p.s, at', stuck)) := hide (by rw [hF]; rfl)
  have HFS : Hid (∀ k, F (k + 1) = ((F k).1.set k (rdS l (smayL t p.e) 1 (F k).2.1 (F k).2.2).1, (rdS l (smayL t p.e) 1 (F k).2.1 (F k).2.2).2)) := hide fun k => by rw [hF]; rfl
  have m1 := as_sumt_number
  have m2 := as_sumt_idents
  have m3 := as_sumt_sumt
  unfold Fd.val
  clear h hF hb
  go_enter Tryd.func14, Tryd.ntmps14
  go_wp2_with fail
  generalize x.alloc (.cells #[.bool t] 70) = x1 at *
  go_loopw [50] (fun i wr => ∃ k : Nat, k ≤ 32 ∧ i = .int .i64 k ∧ DT w wr B rb pb b off cap l (F k).2.1 (F k).2.2 { p with s := (F k).1 } v x.heap.size t) (fun i _ => 32 - (intOf i).toNat)
  case atStart => exact ⟨0, by decide, rfl, by rw [HF0.out]; exact HD.out⟩
  case round =>
    clear HD
    obtain ⟨k, hk, rfl, hdt⟩ := hrel
    by_cases hlt : k < 32
    · have HD := hide hdt.drew
      have HFK := hide (HFS.out k)
      obtain ⟨q, hq⟩ : ∃ q : PV, q = { p with s := (F k).1 } := ⟨_, rfl⟩
      rw [← hq] at HD
      have hqe : q.e = p.e := by rw [hq]
      obtain ⟨c0, c1, c2, c3, c4⟩ := HD.out.ds.pm.five
      have a0 : wr.drew.cell? ⟨x.heap.size, 0, none⟩ = some (.bool t) := by rw [cell_of_row _ _ _ _ _ _ HD.out.row]; rfl
      have HM := hide (smay_any wr.drew t q.a q.b q.c q.d q.e)
      rw [hqe] at HM c4
      have hLp := smayL_pos t p.e
      generalize smayL t p.e = L at *
      obtain ⟨⟨s1, a1, st1⟩, hFk⟩ : ∃ r, r = F k := ⟨_, rfl⟩
      rw [← hFk] at HD HFK
      obtain ⟨r, hr⟩ : ∃ r, r = rdS l L 1 a1 st1 := ⟨_, rfl⟩
      simp only at HFK HD
      rw [← hr] at HFK
      have hqs : q.s = s1 := by rw [hq, ← hFk]
      have HX : Hid (r.1 < 256) := hide (by rw [hr]; exact rdS_lt HB.out)
      have HN : Hid (∀ y sv, DT w y B rb pb b off cap l a1 st1 q v x.heap.size t → SpL y sv L → Calls Tryd.prog 12 #[.pointer (some ⟨rb, 0, none⟩), .int .i64 1, sv] y fun e' y2 => e' = .returned (.int .u64 (r.1 : Nat)) ∧ DT w y2 B rb pb b off cap l r.2.1 r.2.2 q v x.heap.size t) := hide fun y sv hy hs => by
        rw [hr]
        refine (ds_number2 hy.ds sv L hs hLp 1 (by decide) (by decide)).mono ?_
        rintro e' y2 ⟨rfl, h1, h2⟩
        exact ⟨rfl, h1, (h2.block _ (Array.getElem?_eq_some_iff.1 hy.row).1 hy.ne.1).trans hy.row, hy.ne⟩
      have HST : Hid (∀ y, DT w y B rb pb b off cap l r.2.1 r.2.2 q v x.heap.size t → DT w (y.setCell ⟨pb, 9 + k, none⟩ (.int .u8 (r.1 : Int))) B rb pb b off cap l (F (k + 1)).2.1 (F (k + 1)).2.2 { p with s := (F (k + 1)).1 } v x.heap.size t) := hide fun y hy => by
        have e : ({ p with s := (F (k + 1)).1 } : PV) = { q with s := q.s.set k r.1 } := by rw [HFK.out, hqs, hq]
        rw [e, HFK.out]
        exact ⟨hy.ds.put (hy.ds.pm.setS1 k r.1 hlt HX.out) ((Oth.refl pb y).set _ _) hy.ds.vr hy.ds.vn hy.ds.ow, (Go.heap_setCell_other _ _ _ _ (by exact hy.ne.2)).trans hy.row, hy.ne⟩
      have HCL : Hid (∀ y, DT w y B rb pb b off cap l r.2.1 r.2.2 q v x.heap.size t → (∃ z, y.cell? ⟨pb, 9 + k, none⟩ = some z) ∧ y.frozen? ⟨pb, 9 + k, none⟩ = false) := hide fun y hy => ⟨⟨_, hy.ds.pm.rng k _ (u8L_get (by rw [hy.ds.pm.ok.n]; exact hlt))⟩, hy.ds.pm.fz _⟩
      unfold aheadV at HM
      have hwx : IntKind.u8.wrap ((r.1 : Nat) : Int) = ((r.1 : Nat) : Int) := by have := HX.out; simp [IntKind.wrap, IntKind.bits, IntKind.signed]; omega
      have i1 : (k : Int) < 32 := by omega
      generalize q.a = qa at *
      generalize q.b = qb at *
      generalize q.c = qc at *
      generalize q.d = qd at *
      generalize p.e = qe at *
      clear hdt hqe hr hqs hLp hFk HFS HFK HB hq
      obtain ⟨r1, r2, r3⟩ := r
      simp only at *
      go_wp2_with fail
      go_region_law (first
        | (refine step_callTo rfl 22 #[.agg #[.bool t], .agg #[.int .u32 (qa : Int), .int .u32 (qb : Int), .int .u32 (qc : Int), .int .u32 (qd : Int), .int .u32 (qe : Int)]] (by kernel_rfl) HM.out (fun e w' h => by obtain ⟨v, rfl, _⟩ := h; exact ⟨_, rfl⟩) ?_; rintro v4 w4 ⟨sv, hv4, hs4, hb4⟩; injection hv4 with hv4; subst hv4; have HD4 := hide (HD.out.below hb4); have HSP := hide hs4; clear hs4 hb4)
        | (refine step_callTo rfl 12 #[.pointer (some ⟨rb, 0, none⟩), .int .i64 1, v4] (by kernel_rfl) (HN.out _ _ HD4.out HSP.out) (fun e w' h => ⟨_, h.1⟩) ?_; rintro v5 w5 ⟨hv5, hd5⟩; injection hv5 with hv5; subst hv5; have HD5 := hide hd5; obtain ⟨⟨e7, e8⟩, e6⟩ := HCL.out _ HD5.out; clear hd5))
      all_goals
        have HD6 := hide (HST.out _ HD5.out)
        generalize w5.setCell ⟨pb, 9 + k, none⟩ (.int .u8 (r1 : Int)) = w6 at *
        (try simp only [Exit.inBlock, Exit.then])
        go_wp2_with fail
        go_roundw
        case rel => exact ⟨k + 1, by omega, by go_num, HD6.out⟩
        case measure => simp [intOf]; omega
    · obtain rfl : k = 32 := by omega
      have HD := hide hdt
      clear hdt
      go_wp2_with fail
      go_end0
      exact ⟨rfl, v, by rw [HF1.out]; exact HD.out.ds⟩
end Go.Proofs.YtcjilmafdpnfeaaDoor
namespace Go.Proofs.YtcjilmafdpnfeaaDoor
open Go.RowKit
set_option linter.unusedVariables false
set_option linter.unusedSimpArgs false
set_option maxRecDepth 20000

theorem yieldsIf_build {P : Program} {ops : Array Oper} {S : World → Prop} {o : Oper} {a : Act} (hw : Region.wanted o (yielded ops a.tmps) = true) (t : TypeId) (parts : Array (Nat × Operand)) (ho : o.op = .build t parts) (cells : Array Value)
    (hf : P.built t (parts.map fun (i, x) => (i, a.eval x)).toList = some cells) : YieldsIf P ops S o (.agg cells) a :=
  .inl ⟨hw, fun w _ => by
    unfold execOp
    simp only [ho, Sem.run_bind, run_build w t _ cells hf, Result.andThen_ok]
    rfl⟩
theorem AllReadyH.one_store {P : Program} {md : Region.Mode} {ops : Array Oper} {Q : Exit → Act → World → Prop} {S : World → Prop} {fuel : Nat} {listed : Array Bool} {a : Act} {w : World} {i : Nat} {o : Oper} (ho : ops[i]? = some o) (hw : Region.wanted o (yielded ops a.tmps) = true) (ty : TypeId) (x y : Operand) (hop : o.op = .store ty x y) (hdst : o.dst = none)
    (g : Nat) (cells : Array Value) (hx : a.eval x = .pointer (some ⟨g, 0, none⟩)) (hy : a.eval y = .agg cells)
    (t : TypeId) (old : Array Value) (hg : w.heap[g]? = some (.cells old t (0, 0))) (hi : (P.info? ty).map (·.size) = some cells.size)
    (hold : old.size = cells.size) (h1 : cells.all (·.oneCell') = true) (hS : S (w.setRow g cells))
    (h : ∀ W, W = w.setRow g cells → wpAnyH P md ops Q S fuel (listed.setIfInBounds i true) a W) : AllReadyH P md ops Q S fuel listed a w [i] := by
  refine AllReadyH.cons ho (fun K hK => ?_) AllReadyH.nil
  rw [if_pos hw]
  exact wp_store_row ty x y hop g cells hx hy t old hg hi hold h1 (by rw [hdst]; exact hK.out _ _ hS (fun _ => h _ rfl))
theorem q_eq {Q : Exit → Act → World → Prop} {e : Exit} {A B : Act} {w : World} (h : A = B) (h2 : Q e B w) : Q e A w := h ▸ h2
theorem results_row {P : Program} {fn : Func} {p : Tmp} {ty : TypeId} (h : fn.results = #[.cell p ty]) (tmps : Array Value) (w : World) (g : Nat) (t : TypeId) (cs : Array Value) (fr : Nat × Nat) (d : TypeDesc)
    (hp : tmps.getD p undef = .pointer (some ⟨g, 0, none⟩)) (hg : w.heap[g]? = some (.cells cs t fr))
    (hu : P.underlying ty = some d) (hd : (match d with | .struct _ | .array _ _ => true | _ => false) = true) (hi : (P.info? ty).map (·.size) = some cs.size) :
    (results fn tmps).run P w = .ok (.agg cs) w := by
  have hp' : tmps[p]?.getD undef = .pointer (some ⟨g, 0, none⟩) := by simpa using hp
  simp [results, h, hp', asAddr, run_loadVar_row w g t ty cs fr d hg hu hd hi]
def zPk : Array Value := #[.int .i64 0, .int .u32 0, .int .u32 0, .int .u32 0, .int .u32 0, .int .u32 0, .int .u64 0, .int .u64 0, .int .u64 0, .int .u64 0, .int .u8 0, .int .u8 0, .int .u8 0, .int .u8 0, .int .u8 0, .int .u8 0, .int .u8 0, .int .u8 0, .int .u8 0, .int .u8 0, .int .u8 0, .int .u8 0, .int .u8 0, .int .u8 0, .int .u8 0, .int .u8 0, .int .u8 0, .int .u8 0, .int .u8 0, .int .u8 0, .int .u8 0, .int .u8 0, .int .u8 0, .int .u8 0, .int .u8 0, .int .u8 0, .int .u8 0, .int .u8 0, .int .u8 0, .int .u8 0, .int .u8 0, .int .u8 0, .slice none 0 0]
theorem built_packet (c : Int) (p : PV) (h : p.s.length = 32) (da : Option Addr) (dn dc : Nat) : Tryd.prog.built 30 [(0, .int .i64 c), (1, .int .u32 (p.a : Int)), (2, .int .u32 (p.b : Int)), (3, .int .u32 (p.c : Int)), (4, .int .u32 (p.d : Int)), (5, .int .u32 (p.e : Int)), (6, .agg #[.int .u64 (p.g0 : Int), .int .u64 (p.g1 : Int), .int .u64 (p.g2 : Int), .int .u64 (p.g3 : Int)]), (7, .agg (u8L p.s).toArray), (8, .slice da dn dc)] = some (.int .i64 c :: p.row (.slice da dn dc)).toArray := by
  obtain ⟨a, b, c', d, e, g0, g1, g2, g3, s, dl⟩ := p
  obtain ⟨s0, s1, s2, s3, s4, s5, s6, s7, s8, s9, s10, s11, s12, s13, s14, s15, s16, s17, s18, s19, s20, s21, s22, s23, s24, s25, s26, s27, s28, s29, s30, s31, rfl⟩ := list32 h
  kernel_rfl

set_option maxHeartbeats 4000000 in
theorem packet_any (w : World) (c : Int) (pb : Nat) (p : PV) (da : Option Addr) (dn dc : Nat) (h : PM w pb p (.slice da dn dc)) :
    Calls Tryd.prog 16 #[.pointer (some ⟨pb, 0, none⟩), .int .i64 c] w fun e' w' => e' = .returned (pkV c p (.slice da dn dc)) ∧ Below w.heap.size w w' := by
  have hb0 := (Below.refl w.heap.size w).alloc (Nat.le_refl _) (.cells zPk 30)
  have HSS : Hid (∀ y, Below w.heap.size w y → y.cell? ⟨pb, 0, none⟩ = some (.int .u32 (p.a : Int)) ∧ y.cell? ⟨pb, 1, none⟩ = some (.int .u32 (p.b : Int)) ∧ y.cell? ⟨pb, 2, none⟩ = some (.int .u32 (p.c : Int)) ∧ y.cell? ⟨pb, 3, none⟩ = some (.int .u32 (p.d : Int)) ∧ y.cell? ⟨pb, 4, none⟩ = some (.int .u32 (p.e : Int)) ∧ y.cell? ⟨pb, 5, none⟩ = some (.int .u64 (p.g0 : Int)) ∧ y.cell? ⟨pb, 6, none⟩ = some (.int .u64 (p.g1 : Int)) ∧ y.cell? ⟨pb, 7, none⟩ = some (.int .u64 (p.g2 : Int)) ∧ y.cell? ⟨pb, 8, none⟩ = some (.int .u64 (p.g3 : Int)) ∧ y.cell? ⟨pb, 41, none⟩ = some (.slice da dn dc) ∧ y.rangeAt pb 9 (u8L p.s) ∧ y.rangeAt pb 5 [.int .u64 (p.g0 : Int), .int .u64 (p.g1 : Int), .int .u64 (p.g2 : Int), .int .u64 (p.g3 : Int)]) := hide fun y hb => by
    have hp := h.below hb
    obtain ⟨c0, c1, c2, c3, c4⟩ := hp.five
    obtain ⟨c5, c6, c7, c8⟩ := hp.gens
    refine ⟨c0, c1, c2, c3, c4, c5, c6, c7, c8, hp.dcell, hp.rng, fun j x hx => ?_⟩
    match j, hx with
    | 0, hx => simp at hx; rw [← hx]; exact c5
    | 1, hx => simp at hx; rw [← hx]; exact c6
    | 2, hx => simp at hx; rw [← hx]; exact c7
    | 3, hx => simp at hx; rw [← hx]; exact c8
    | n + 4, hx => simp at hx
  have HI : Hid ((Tryd.prog.info? 28).map (·.size) = some (u8L p.s).length) := hide (by rw [u8L_len, h.ok.n]; exact infoS)
  have HBU : Hid (∀ L, L = [(0, .int .i64 c), (1, .int .u32 (p.a : Int)), (2, .int .u32 (p.b : Int)), (3, .int .u32 (p.c : Int)), (4, .int .u32 (p.d : Int)), (5, .int .u32 (p.e : Int)), (6, .agg [.int .u64 (p.g0 : Int), .int .u64 (p.g1 : Int), .int .u64 (p.g2 : Int), .int .u64 (p.g3 : Int)].toArray), (7, .agg (u8L p.s).toArray), (8, .slice da dn dc)] → Tryd.prog.built 30 L = some (.int .i64 c :: p.row (.slice da dn dc)).toArray) := hide fun L hL => by rw [hL]; exact built_packet c p h.ok.n da dn dc
  have HK1 : Hid ((Tryd.prog.info? 30).map (·.size) = some (.int .i64 c :: p.row (.slice da dn dc)).toArray.size) := hide (by rw [List.size_toArray, List.length_cons, row_len h.ok.n]; exact infoK)
  have HK2 : Hid (zPk.size = (.int .i64 c :: p.row (.slice da dn dc)).toArray.size) := hide (by show 43 = _; rw [List.size_toArray, List.length_cons, row_len h.ok.n])
  have HK3 : Hid ((.int .i64 c :: p.row (.slice da dn dc)).toArray.all (·.oneCell') = true) := hide (by
    have := row_all p (.slice da dn dc) rfl
    rw [Array.all_eq_true_iff_forall_mem] at this ⊢
    intro x hx
    rw [List.mem_toArray, List.mem_cons] at hx
    rcases hx with rfl | hx
    · rfl
    · exact this x (by rw [List.mem_toArray]; exact hx))
  unfold pkV
  generalize (.int .i64 c :: p.row (.slice da dn dc)).toArray = CS at *
  generalize u8L p.s = SL at *
  have HIG : Hid ((Tryd.prog.info? 27).map (·.size) = some [Value.int .u64 (p.g0 : Int), .int .u64 (p.g1 : Int), .int .u64 (p.g2 : Int), .int .u64 (p.g3 : Int)].length) := hide infoG
  generalize [Value.int .u64 (p.g0 : Int), .int .u64 (p.g1 : Int), .int .u64 (p.g2 : Int), .int .u64 (p.g3 : Int)] = GL at *
  generalize p.a = a at *
  generalize p.b = b at *
  generalize p.c = c' at *
  generalize p.d = d at *
  generalize p.e = e at *
  generalize p.g0 = g0 at *
  generalize p.g1 = g1 at *
  generalize p.g2 = g2 at *
  generalize p.g3 = g3 at *
  have hpl : pb < w.heap.size := h.lt
  clear h
  go_enter Tryd.func16, Tryd.ntmps16
  go_wp2_with fail
  have hrow : (w.alloc (.cells zPk 30)).heap[w.heap.size]? = some (.cells zPk 30 (0, 0)) := Go.heap_alloc_new w _
  refine wp_region_held_drew (S := fun y => y.cell? ⟨pb, 0, none⟩ = some (.int .u32 (a : Int)) ∧ y.cell? ⟨pb, 1, none⟩ = some (.int .u32 (b : Int)) ∧ y.cell? ⟨pb, 2, none⟩ = some (.int .u32 (c' : Int)) ∧ y.cell? ⟨pb, 3, none⟩ = some (.int .u32 (d : Int)) ∧ y.cell? ⟨pb, 4, none⟩ = some (.int .u32 (e : Int)) ∧ y.cell? ⟨pb, 5, none⟩ = some (.int .u64 (g0 : Int)) ∧ y.cell? ⟨pb, 6, none⟩ = some (.int .u64 (g1 : Int)) ∧ y.cell? ⟨pb, 7, none⟩ = some (.int .u64 (g2 : Int)) ∧ y.cell? ⟨pb, 8, none⟩ = some (.int .u64 (g3 : Int)) ∧ y.cell? ⟨pb, 41, none⟩ = some (.slice da dn dc) ∧ y.rangeAt pb 9 SL ∧ y.rangeAt pb 5 GL) (by kernel_rfl) (HSS.out _ (hb0.trans ⟨rfl, rfl, rfl, Nat.le_refl _, fun _ _ => rfl⟩)) (fun hHeld => ?_)
  refine wpAnyH_take (i := 0) (v := ?v0) rfl (by kernel_rfl) (by kernel_rfl) (by kernel_rfl) (fun _ _ _ h => h) (Or.inl ⟨by rfl, ?h0⟩) hHeld ?r0
  case h0 => intro w' hSw; go_simp; (try with_reducible rfl)
  (try simp only [Act.put, List.setIfInBounds_toArray, List.set_cons_zero, List.set_cons_succ])
  refine wpAnyH_take (i := 1) (v := ?v1) rfl (by kernel_rfl) (by kernel_rfl) (by kernel_rfl) (fun _ _ _ h => h) (Or.inl ⟨by rfl, ?h1⟩) hHeld ?r1
  case h1 => intro w' hSw; go_simp; (try with_reducible rfl)
  (try simp only [Act.put, List.setIfInBounds_toArray, List.set_cons_zero, List.set_cons_succ])
  refine wpAnyH_take (i := 2) (v := ?v2) rfl (by kernel_rfl) (by kernel_rfl) (by kernel_rfl) (fun _ _ _ h => h) (Or.inl ⟨by rfl, ?h2⟩) hHeld ?r2
  case h2 => intro w' hSw; go_simp; (try with_reducible rfl)
  (try simp only [Act.put, List.setIfInBounds_toArray, List.set_cons_zero, List.set_cons_succ])
  refine wpAnyH_take (i := 3) (v := ?v3) rfl (by kernel_rfl) (by kernel_rfl) (by kernel_rfl) (fun _ _ _ h => h) (Or.inl ⟨by rfl, ?h3⟩) hHeld ?r3
  case h3 => intro w' hSw; go_simp; (try with_reducible rfl)
  (try simp only [Act.put, List.setIfInBounds_toArray, List.set_cons_zero, List.set_cons_succ])
  refine wpAnyH_take (i := 4) (v := ?v4) rfl (by kernel_rfl) (by kernel_rfl) (by kernel_rfl) (fun _ _ _ h => h) (Or.inl ⟨by rfl, ?h4⟩) hHeld ?r4
  case h4 => intro w' hSw; go_simp; (try with_reducible rfl)
  (try simp only [Act.put, List.setIfInBounds_toArray, List.set_cons_zero, List.set_cons_succ])
  refine wpAnyH_take (i := 5) (v := .int .u32 (a : Int)) rfl (by kernel_rfl) (by kernel_rfl) (by kernel_rfl) (fun _ _ _ h => h) (Or.inl ⟨by rfl, ?h5⟩) hHeld ?r5
  case h5 => intro w' hSw; obtain ⟨s0, s1, s2, s3, s4, s5, s6, s7, s8, s9, _, _⟩ := hSw; go_simp; (try with_reducible rfl)
  (try simp only [Act.put, List.setIfInBounds_toArray, List.set_cons_zero, List.set_cons_succ])
  refine wpAnyH_take (i := 6) (v := ?v6) rfl (by kernel_rfl) (by kernel_rfl) (by kernel_rfl) (fun _ _ _ h => h) (Or.inl ⟨by rfl, ?h6⟩) hHeld ?r6
  case h6 => intro w' hSw; go_simp; (try with_reducible rfl)
  (try simp only [Act.put, List.setIfInBounds_toArray, List.set_cons_zero, List.set_cons_succ])
  refine wpAnyH_take (i := 7) (v := ?v7) rfl (by kernel_rfl) (by kernel_rfl) (by kernel_rfl) (fun _ _ _ h => h) (Or.inl ⟨by rfl, ?h7⟩) hHeld ?r7
  case h7 => intro w' hSw; go_simp; (try with_reducible rfl)
  (try simp only [Act.put, List.setIfInBounds_toArray, List.set_cons_zero, List.set_cons_succ])
  refine wpAnyH_take (i := 8) (v := ?v8) rfl (by kernel_rfl) (by kernel_rfl) (by kernel_rfl) (fun _ _ _ h => h) (Or.inl ⟨by rfl, ?h8⟩) hHeld ?r8
  case h8 => intro w' hSw; go_simp; (try with_reducible rfl)
  (try simp only [Act.put, List.setIfInBounds_toArray, List.set_cons_zero, List.set_cons_succ])
  refine wpAnyH_take (i := 9) (v := ?v9) rfl (by kernel_rfl) (by kernel_rfl) (by kernel_rfl) (fun _ _ _ h => h) (Or.inl ⟨by rfl, ?h9⟩) hHeld ?r9
  case h9 => intro w' hSw; go_simp; (try with_reducible rfl)
  (try simp only [Act.put, List.setIfInBounds_toArray, List.set_cons_zero, List.set_cons_succ])
  refine wpAnyH_take (i := 10) (v := .int .u32 (b : Int)) rfl (by kernel_rfl) (by kernel_rfl) (by kernel_rfl) (fun _ _ _ h => h) (Or.inl ⟨by rfl, ?h10⟩) hHeld ?r10
  case h10 => intro w' hSw; obtain ⟨s0, s1, s2, s3, s4, s5, s6, s7, s8, s9, _, _⟩ := hSw; go_simp; (try with_reducible rfl)
  (try simp only [Act.put, List.setIfInBounds_toArray, List.set_cons_zero, List.set_cons_succ])
  refine wpAnyH_take (i := 11) (v := ?v11) rfl (by kernel_rfl) (by kernel_rfl) (by kernel_rfl) (fun _ _ _ h => h) (Or.inl ⟨by rfl, ?h11⟩) hHeld ?r11
  case h11 => intro w' hSw; go_simp; (try with_reducible rfl)
  (try simp only [Act.put, List.setIfInBounds_toArray, List.set_cons_zero, List.set_cons_succ])
  refine wpAnyH_take (i := 12) (v := ?v12) rfl (by kernel_rfl) (by kernel_rfl) (by kernel_rfl) (fun _ _ _ h => h) (Or.inl ⟨by rfl, ?h12⟩) hHeld ?r12
  case h12 => intro w' hSw; go_simp; (try with_reducible rfl)
  (try simp only [Act.put, List.setIfInBounds_toArray, List.set_cons_zero, List.set_cons_succ])
  refine wpAnyH_take (i := 13) (v := ?v13) rfl (by kernel_rfl) (by kernel_rfl) (by kernel_rfl) (fun _ _ _ h => h) (Or.inl ⟨by rfl, ?h13⟩) hHeld ?r13
  case h13 => intro w' hSw; go_simp; (try with_reducible rfl)
  (try simp only [Act.put, List.setIfInBounds_toArray, List.set_cons_zero, List.set_cons_succ])
  refine wpAnyH_take (i := 14) (v := ?v14) rfl (by kernel_rfl) (by kernel_rfl) (by kernel_rfl) (fun _ _ _ h => h) (Or.inl ⟨by rfl, ?h14⟩) hHeld ?r14
  case h14 => intro w' hSw; go_simp; (try with_reducible rfl)
  (try simp only [Act.put, List.setIfInBounds_toArray, List.set_cons_zero, List.set_cons_succ])
  refine wpAnyH_take (i := 15) (v := .int .u32 (c' : Int)) rfl (by kernel_rfl) (by kernel_rfl) (by kernel_rfl) (fun _ _ _ h => h) (Or.inl ⟨by rfl, ?h15⟩) hHeld ?r15
  case h15 => intro w' hSw; obtain ⟨s0, s1, s2, s3, s4, s5, s6, s7, s8, s9, _, _⟩ := hSw; go_simp; (try with_reducible rfl)
  (try simp only [Act.put, List.setIfInBounds_toArray, List.set_cons_zero, List.set_cons_succ])
  refine wpAnyH_take (i := 16) (v := ?v16) rfl (by kernel_rfl) (by kernel_rfl) (by kernel_rfl) (fun _ _ _ h => h) (Or.inl ⟨by rfl, ?h16⟩) hHeld ?r16
  case h16 => intro w' hSw; go_simp; (try with_reducible rfl)
  (try simp only [Act.put, List.setIfInBounds_toArray, List.set_cons_zero, List.set_cons_succ])
  refine wpAnyH_take (i := 17) (v := ?v17) rfl (by kernel_rfl) (by kernel_rfl) (by kernel_rfl) (fun _ _ _ h => h) (Or.inl ⟨by rfl, ?h17⟩) hHeld ?r17
  case h17 => intro w' hSw; go_simp; (try with_reducible rfl)
  (try simp only [Act.put, List.setIfInBounds_toArray, List.set_cons_zero, List.set_cons_succ])
  refine wpAnyH_take (i := 18) (v := ?v18) rfl (by kernel_rfl) (by kernel_rfl) (by kernel_rfl) (fun _ _ _ h => h) (Or.inl ⟨by rfl, ?h18⟩) hHeld ?r18
  case h18 => intro w' hSw; go_simp; (try with_reducible rfl)
  (try simp only [Act.put, List.setIfInBounds_toArray, List.set_cons_zero, List.set_cons_succ])
  refine wpAnyH_take (i := 19) (v := ?v19) rfl (by kernel_rfl) (by kernel_rfl) (by kernel_rfl) (fun _ _ _ h => h) (Or.inl ⟨by rfl, ?h19⟩) hHeld ?r19
  case h19 => intro w' hSw; go_simp; (try with_reducible rfl)
  (try simp only [Act.put, List.setIfInBounds_toArray, List.set_cons_zero, List.set_cons_succ])
  refine wpAnyH_take (i := 20) (v := .int .u32 (d : Int)) rfl (by kernel_rfl) (by kernel_rfl) (by kernel_rfl) (fun _ _ _ h => h) (Or.inl ⟨by rfl, ?h20⟩) hHeld ?r20
  case h20 => intro w' hSw; obtain ⟨s0, s1, s2, s3, s4, s5, s6, s7, s8, s9, _, _⟩ := hSw; go_simp; (try with_reducible rfl)
  (try simp only [Act.put, List.setIfInBounds_toArray, List.set_cons_zero, List.set_cons_succ])
  refine wpAnyH_take (i := 21) (v := ?v21) rfl (by kernel_rfl) (by kernel_rfl) (by kernel_rfl) (fun _ _ _ h => h) (Or.inl ⟨by rfl, ?h21⟩) hHeld ?r21
  case h21 => intro w' hSw; go_simp; (try with_reducible rfl)
  (try simp only [Act.put, List.setIfInBounds_toArray, List.set_cons_zero, List.set_cons_succ])
  refine wpAnyH_take (i := 22) (v := ?v22) rfl (by kernel_rfl) (by kernel_rfl) (by kernel_rfl) (fun _ _ _ h => h) (Or.inl ⟨by rfl, ?h22⟩) hHeld ?r22
  case h22 => intro w' hSw; go_simp; (try with_reducible rfl)
  (try simp only [Act.put, List.setIfInBounds_toArray, List.set_cons_zero, List.set_cons_succ])
  refine wpAnyH_take (i := 23) (v := ?v23) rfl (by kernel_rfl) (by kernel_rfl) (by kernel_rfl) (fun _ _ _ h => h) (Or.inl ⟨by rfl, ?h23⟩) hHeld ?r23
  case h23 => intro w' hSw; go_simp; (try with_reducible rfl)
  (try simp only [Act.put, List.setIfInBounds_toArray, List.set_cons_zero, List.set_cons_succ])
  refine wpAnyH_take (i := 24) (v := ?v24) rfl (by kernel_rfl) (by kernel_rfl) (by kernel_rfl) (fun _ _ _ h => h) (Or.inl ⟨by rfl, ?h24⟩) hHeld ?r24
  case h24 => intro w' hSw; go_simp; (try with_reducible rfl)
  (try simp only [Act.put, List.setIfInBounds_toArray, List.set_cons_zero, List.set_cons_succ])
  refine wpAnyH_take (i := 25) (v := .int .u32 (e : Int)) rfl (by kernel_rfl) (by kernel_rfl) (by kernel_rfl) (fun _ _ _ h => h) (Or.inl ⟨by rfl, ?h25⟩) hHeld ?r25
  case h25 => intro w' hSw; obtain ⟨s0, s1, s2, s3, s4, s5, s6, s7, s8, s9, _, _⟩ := hSw; go_simp; (try with_reducible rfl)
  (try simp only [Act.put, List.setIfInBounds_toArray, List.set_cons_zero, List.set_cons_succ])
  refine wpAnyH_take (i := 26) (v := ?v26) rfl (by kernel_rfl) (by kernel_rfl) (by kernel_rfl) (fun _ _ _ h => h) (Or.inl ⟨by rfl, ?h26⟩) hHeld ?r26
  case h26 => intro w' hSw; go_simp; (try with_reducible rfl)
  (try simp only [Act.put, List.setIfInBounds_toArray, List.set_cons_zero, List.set_cons_succ])
  refine wpAnyH_take (i := 27) (v := ?v27) rfl (by kernel_rfl) (by kernel_rfl) (by kernel_rfl) (fun _ _ _ h => h) (Or.inl ⟨by rfl, ?h27⟩) hHeld ?r27
  case h27 => intro w' hSw; go_simp; (try with_reducible rfl)
  (try simp only [Act.put, List.setIfInBounds_toArray, List.set_cons_zero, List.set_cons_succ])
  refine wpAnyH_take (i := 28) (v := ?v28) rfl (by kernel_rfl) (by kernel_rfl) (by kernel_rfl) (fun _ _ _ h => h) (Or.inl ⟨by rfl, ?h28⟩) hHeld ?r28
  case h28 => intro w' hSw; go_simp; (try with_reducible rfl)
  (try simp only [Act.put, List.setIfInBounds_toArray, List.set_cons_zero, List.set_cons_succ])
  refine wpAnyH_take (i := 29) (v := .agg GL.toArray) rfl (by kernel_rfl) (by kernel_rfl) (by kernel_rfl) (fun _ _ _ h => h) (yieldsIf_load_mid (by kernel_rfl) 27 (.tmp 33) (by kernel_rfl) pb 5 (by kernel_rfl) GL _ (fun w' h => h.2.2.2.2.2.2.2.2.2.2.2) Tryd.underlying27 rfl HIG.out) hHeld ?_
  (try simp only [Act.put, List.setIfInBounds_toArray, List.set_cons_zero, List.set_cons_succ])
  refine wpAnyH_take (i := 30) (v := ?v30) rfl (by kernel_rfl) (by kernel_rfl) (by kernel_rfl) (fun _ _ _ h => h) (Or.inl ⟨by rfl, ?h30⟩) hHeld ?r30
  case h30 => intro w' hSw; go_simp; (try with_reducible rfl)
  (try simp only [Act.put, List.setIfInBounds_toArray, List.set_cons_zero, List.set_cons_succ])
  refine wpAnyH_take (i := 31) (v := ?v31) rfl (by kernel_rfl) (by kernel_rfl) (by kernel_rfl) (fun _ _ _ h => h) (Or.inl ⟨by rfl, ?h31⟩) hHeld ?r31
  case h31 => intro w' hSw; go_simp; (try with_reducible rfl)
  (try simp only [Act.put, List.setIfInBounds_toArray, List.set_cons_zero, List.set_cons_succ])
  refine wpAnyH_take (i := 32) (v := ?v32) rfl (by kernel_rfl) (by kernel_rfl) (by kernel_rfl) (fun _ _ _ h => h) (Or.inl ⟨by rfl, ?h32⟩) hHeld ?r32
  case h32 => intro w' hSw; go_simp; (try with_reducible rfl)
  (try simp only [Act.put, List.setIfInBounds_toArray, List.set_cons_zero, List.set_cons_succ])
  refine wpAnyH_take (i := 33) (v := .agg SL.toArray) rfl (by kernel_rfl) (by kernel_rfl) (by kernel_rfl) (fun _ _ _ h => h) (yieldsIf_load_mid (by kernel_rfl) 28 (.tmp 37) (by kernel_rfl) pb 9 (by kernel_rfl) SL _ (fun w' h => h.2.2.2.2.2.2.2.2.2.2.1) Tryd.underlying28 rfl HI.out) hHeld ?_
  (try simp only [Act.put, List.setIfInBounds_toArray, List.set_cons_zero, List.set_cons_succ])
  refine wpAnyH_take (i := 34) (v := ?v34) rfl (by kernel_rfl) (by kernel_rfl) (by kernel_rfl) (fun _ _ _ h => h) (Or.inl ⟨by rfl, ?h34⟩) hHeld ?r34
  case h34 => intro w' hSw; go_simp; (try with_reducible rfl)
  (try simp only [Act.put, List.setIfInBounds_toArray, List.set_cons_zero, List.set_cons_succ])
  refine wpAnyH_take (i := 35) (v := ?v35) rfl (by kernel_rfl) (by kernel_rfl) (by kernel_rfl) (fun _ _ _ h => h) (Or.inl ⟨by rfl, ?h35⟩) hHeld ?r35
  case h35 => intro w' hSw; go_simp; (try with_reducible rfl)
  (try simp only [Act.put, List.setIfInBounds_toArray, List.set_cons_zero, List.set_cons_succ])
  refine wpAnyH_take (i := 36) (v := ?v36) rfl (by kernel_rfl) (by kernel_rfl) (by kernel_rfl) (fun _ _ _ h => h) (Or.inl ⟨by rfl, ?h36⟩) hHeld ?r36
  case h36 => intro w' hSw; go_simp; (try with_reducible rfl)
  (try simp only [Act.put, List.setIfInBounds_toArray, List.set_cons_zero, List.set_cons_succ])
  refine wpAnyH_take (i := 37) (v := .slice da dn dc) rfl (by kernel_rfl) (by kernel_rfl) (by kernel_rfl) (fun _ _ _ h => h) (Or.inl ⟨by rfl, ?h37⟩) hHeld ?r37
  case h37 => intro w' hSw; obtain ⟨s0, s1, s2, s3, s4, s5, s6, s7, s8, s9, _, _⟩ := hSw; go_simp; (try with_reducible rfl)
  (try simp only [Act.put, List.setIfInBounds_toArray, List.set_cons_zero, List.set_cons_succ])
  refine wpAnyH_take (i := 38) (v := .agg CS) rfl (by kernel_rfl) (by kernel_rfl) (by kernel_rfl) (fun _ _ _ h => h) ?hy hHeld ?_
  case hy =>
    refine yieldsIf_build ?ha 30 _ rfl CS ?hd
    case ha => kernel_rfl
    case hd =>
      refine HBU.out _ ?_
      kernel_rfl
  (try simp only [Act.put, List.setIfInBounds_toArray, List.set_cons_zero, List.set_cons_succ])
  refine wpAnyH_ready (rs := [39]) (by kernel_rfl) (by simp) ?_
  have HB2 : Below w.heap.size w ((w.alloc (.cells zPk 30)).drew.setRow w.heap.size CS) := by
    refine ⟨hb0.os, hb0.tape, hb0.output, ?_, fun j hj => ?_⟩
    · simp [World.setRow]
    · rw [setRow_other _ _ _ _ (by omega)]; exact hb0.block j hj
  have HR2 : ((w.alloc (.cells zPk 30)).drew.setRow w.heap.size CS).heap[w.heap.size]? = some (.cells CS 30 (0, 0)) := setRow_heap _ _ zPk _ 30 _ hrow
  refine AllReadyH.one_store (o := ?o) ?ho ?hw 30 (.tmp 4) (.tmp 43) ?hop ?hdst w.heap.size CS ?hx ?hy 30 zPk hrow HK1.out HK2.out HK3.out (HSS.out _ HB2) ?h
  case ho => exact rfl
  case hw => kernel_rfl
  case hop => kernel_rfl
  case hdst => kernel_rfl
  case hx => kernel_rfl
  case hy => kernel_rfl
  case h =>
    intro W2 hW2
    have hW3 : W2 = (w.alloc (.cells zPk 30)).drew.setRow w.heap.size CS := hW2
    rw [← hW3] at HB2 HR2
    clear hW2 hW3
    refine wpAnyH_done ?hr ?hq _
    case hr => kernel_rfl
    case hq =>
      clear HSS HI HBU HK2 HK3 HIG hrow hHeld hb0
      have HSZ := HK1.out
      clear HK1
      refine q_eq (B := { tmps := #[.pointer (some ⟨pb, 0, none⟩), .int .i64 c, undef, undef, .pointer (some ⟨w.heap.size, 0, none⟩), .int .i64 c, .pointer (some ⟨pb, 0, none⟩), .pointer (some ⟨pb, 0, none⟩), .pointer (some ⟨pb, 0, none⟩), .pointer (some ⟨pb, 0, none⟩), .int .u32 (a : Int), .pointer (some ⟨pb, 0, none⟩), .pointer (some ⟨pb, 0, none⟩), .pointer (some ⟨pb, 0, none⟩), .pointer (some ⟨pb, 1, none⟩), .int .u32 (b : Int), .pointer (some ⟨pb, 0, none⟩), .pointer (some ⟨pb, 0, none⟩), .pointer (some ⟨pb, 0, none⟩), .pointer (some ⟨pb, 2, none⟩), .int .u32 (c' : Int), .pointer (some ⟨pb, 0, none⟩), .pointer (some ⟨pb, 0, none⟩), .pointer (some ⟨pb, 0, none⟩), .pointer (some ⟨pb, 3, none⟩), .int .u32 (d : Int), .pointer (some ⟨pb, 0, none⟩), .pointer (some ⟨pb, 0, none⟩), .pointer (some ⟨pb, 0, none⟩), .pointer (some ⟨pb, 4, none⟩), .int .u32 (e : Int), .pointer (some ⟨pb, 0, none⟩), .pointer (some ⟨pb, 0, none⟩), .pointer (some ⟨pb, 5, none⟩), .agg GL.toArray, .pointer (some ⟨pb, 0, none⟩), .pointer (some ⟨pb, 0, none⟩), .pointer (some ⟨pb, 9, none⟩), .agg SL.toArray, .pointer (some ⟨pb, 0, none⟩), .pointer (some ⟨pb, 0, none⟩), .pointer (some ⟨pb, 41, none⟩), .slice da dn dc, .agg CS], defers := [] }) (by kernel_rfl) ?_
      go_wp2_with fail
      exact bodyPost_ret (results_row (p := 4) rfl _ _ w.heap.size 30 _ (0, 0) _ (by kernel_rfl) HR2 Tryd.underlying30 rfl HSZ) rfl ⟨rfl, HB2⟩
end Go.Proofs.YtcjilmafdpnfeaaDoor
namespace Go.Proofs.YtcjilmafdpnfeaaDoor
open Go.RowKit
set_option linter.unusedVariables false
set_option linter.unusedSimpArgs false
set_option maxRecDepth 20000

theorem rdN1_cmd (l : List Nat) (at' : Nat) : (rdN l [(1, 25)] 1 0 at').1 ≤ 25 ∧ ((rdN l [(1, 25)] 1 0 at').2.2 = true → (rdN l [(1, 25)] 1 0 at').1 = 0) ∧ ((rdN l [(1, 25)] 1 0 at').2.2 = false → 1 ≤ (rdN l [(1, 25)] 1 0 at').1) := by
  rw [rdN]
  split
  · simp
  · split
    · rename_i hm
      simp [meets] at hm
      simp [rdN]
      omega
    · simp
/-- the command -/
def dCmd (l : List Nat) : Nat := (rdS l [(1, 25)] 1 0 false).1
theorem dCmd_le (l : List Nat) : dCmd l ≤ 25 := (rdN1_cmd l 0).1
theorem dCmd_stuck {l : List Nat} (h : (rdS l [(1, 25)] 1 0 false).2.2 = true) : dCmd l = 0 := (rdN1_cmd l 0).2.1 h
theorem dCmd_go {l : List Nat} (h : (rdS l [(1, 25)] 1 0 false).2.2 = false) : 1 ≤ dCmd l := (rdN1_cmd l 0).2.2 h
/-- its fields, one behind the other -/
def decS (l : List Nat) (fs : List Fd) (k : Nat) (p : PV) (at' : Nat) (st : Bool) : PV × Nat × Bool := (fs.take k).foldl (fun s f => fieldF l s.1 s.2.1 s.2.2 f) (p, at', st)
theorem decS_succ {l : List Nat} {fs : List Fd} {k : Nat} {f : Fd} (hk : fs[k]? = some f) (p : PV) (at' : Nat) (st : Bool) : decS l fs (k + 1) p at' st = fieldF l (decS l fs k p at' st).1 (decS l fs k p at' st).2.1 (decS l fs k p at' st).2.2 f := by
  unfold decS
  rw [List.take_add_one, hk]
  simp
/-- what was read -/
def dAll (l : List Nat) : PV × Nat × Bool := decS l (fdL (dCmd l)) (fdL (dCmd l)).length PV.zero (rdS l [(1, 25)] 1 0 false).2.1 (rdS l [(1, 25)] 1 0 false).2.2
def dErr (l : List Nat) : Nat := why l.length (dAll l).2.1 (dAll l).2.2
def dAt (l : List Nat) : Nat := if dErr l = 0 then 0 else (dAll l).2.1
def dPv (l : List Nat) : PV := if dErr l = 0 then (dAll l).1 else PV.zero
def dC (l : List Nat) : Nat := if dErr l = 0 then dCmd l else 0
def DecP (w : World) (l : List Nat) (e : Ending) (w' : World) : Prop := ∃ v', e = .returned (.tuple #[pkV (dC l) (dPv l) v', .int .i64 (dAt l : Nat), .int .i64 (dErr l : Nat)]) ∧ BSl w' v' (dPv l).dl ∧ Below w.heap.size w w'
theorem zPk_eq : zPk = (.int .i64 0 :: PV.zero.row (.slice none 0 0)).toArray := rfl
theorem zParts_eq : zParts = (PV.zero.row (.slice none 0 0)).toArray := rfl
theorem results_row_tmp2 {P : Program} {fn : Func} {p u v : Tmp} {ty : TypeId} (h : fn.results = #[.cell p ty, .tmp u, .tmp v]) (tmps : Array Value) (w : World) (g : Nat) (t : TypeId) (cs : Array Value) (fr : Nat × Nat) (d : TypeDesc)
    (hp : tmps.getD p undef = .pointer (some ⟨g, 0, none⟩)) (hg : w.heap[g]? = some (.cells cs t fr))
    (hu : P.underlying ty = some d) (hd : (match d with | .struct _ | .array _ _ => true | _ => false) = true) (hi : (P.info? ty).map (·.size) = some cs.size) :
    (results fn tmps).run P w = .ok (.tuple #[.agg cs, tmps.getD u undef, tmps.getD v undef]) w := by
  have hp' : tmps[p]?.getD undef = .pointer (some ⟨g, 0, none⟩) := by simpa using hp
  simp [results, h, hp', asAddr, run_loadVar_row w g t ty cs fr d hg hu hd hi]
/-- the reader and the parts, as they begin -/
theorem ds_begin {w x3 : World} {b off cap : Nat} {l : List Nat} {at' : Nat} {st : Bool} (hT : BTab w) (hbw : b < w.heap.size) (hr : Rd x3 w.heap.size b off cap l at' st) (hbel : Below w.heap.size w x3) (ha : at' ≤ l.length) :
    DS w (x3.alloc (.cells zParts 49)) w.heap.size w.heap.size x3.heap.size b off cap l at' st PV.zero (.slice none 0 0) := by
  have hb := (Below.refl x3.heap.size x3).alloc (Nat.le_refl _) (.cells zParts 49)
  have hrl := (Array.getElem?_eq_some_iff.1 hr.row).1
  have hTb : 0 < w.heap.size := by have := World.block_lt_of_cell? w _ (hT 0 (by decide)).1; simpa using this
  refine ⟨hr.below hb, ⟨Go.heap_alloc_new x3 _, PV.zero_ok, bsl_nil _, by simp [Value.ownBlock]⟩, (hT.below (hbel.trans (hb.mono hbel.size))), ⟨(hbel.trans (hb.mono hbel.size)).os, (hbel.trans (hb.mono hbel.size)).tape, (hbel.trans (hb.mono hbel.size)).output, (hbel.trans (hb.mono hbel.size)).size, fun j h1 _ _ => (hbel.trans (hb.mono hbel.size)).block j h1⟩, by omega, ⟨Nat.le_refl _, hbel.size, hbw, hTb, by simp; have := hbel.size; omega⟩, by simp [Value.ownBlock], ha, by simp [Value.ownBlock], ⟨World.ownsRow_nil _ _ _ _, by simp [PV.zero]⟩⟩
theorem field_all {f : Fd} (h : f.Ok) : FieldSpec f := by
  cases f with
  | num n => exact field_num n h
  | ids => exact field_ids
  | sum t => exact field_sum t
  | dat lo hi t => exact field_dat lo hi t h.1 h.2
end Go.Proofs.YtcjilmafdpnfeaaDoor
namespace Go.Proofs.YtcjilmafdpnfeaaDoor
open Go.RowKit
set_option linter.unusedVariables false
set_option linter.unusedSimpArgs false
set_option maxRecDepth 20000

/-- one of the five numbers, as the document reads it -/
def dStep (l : List Nat) (c : Nat) (s : PV × Nat × Bool) (i : Nat) : PV × Nat × Bool :=
  if hasB c (2 ^ i) then (s.1.set i (rdS l (nmsL c i s.1.a s.1.b) 4 s.2.1 s.2.2).1, (rdS l (nmsL c i s.1.a s.1.b) 4 s.2.1 s.2.2).2) else s
def dNms (l : List Nat) (c k : Nat) : PV × Nat × Bool := (List.range k).foldl (dStep l c) (PV.zero, 1, false)
theorem dNms_succ (l : List Nat) (c k : Nat) : dNms l c (k + 1) = dStep l c (dNms l c k) k := by
  unfold dNms
  rw [List.range_succ, List.foldl_append]
  rfl
def dG (l : List Nat) (c : Nat) (s : PV × Nat × Bool) : PV × Nat × Bool := if hasB c 32 then fieldF l s.1 s.2.1 s.2.2 .ids else s
def zL (c e : Nat) : List (Nat × Nat) := if c = 15 ∧ e = 1 then [(0, 0)] else [(0, 255)]
def dS (l : List Nat) (c : Nat) (s : PV × Nat × Bool) : PV × Nat × Bool := if hasB c 64 then ({ s.1 with s := (sumF l (zL c s.1.e) s.1.s s.2.1 s.2.2 32).1 }, (sumF l (zL c s.1.e) s.1.s s.2.1 s.2.2 32).2) else s
def dLn (l : List Nat) (c : Nat) (s : PV × Nat × Bool) : Nat × Nat × Bool := rdS l (lenL c s.1.e) 2 s.2.1 s.2.2
def dD (l : List Nat) (c : Nat) (s : PV × Nat × Bool) : PV × Nat × Bool := if hasB c 128 then ({ s.1 with dl := (tkR l (dLn l c s).2.1 (dLn l c s).2.2 (dLn l c s).1).1 }, (tkR l (dLn l c s).2.1 (dLn l c s).2.2 (dLn l c s).1).2) else s
def dRest (l : List Nat) (c : Nat) : PV × Nat × Bool := dD l c (dS l c (dG l c (dNms l c 5)))
theorem rdN_in (l : List Nat) (L : List (Nat × Nat)) : ∀ k v at', 0 < k → (rdN l L k v at').2.2 = false → meets L (rdN l L k v at').1 (rdN l L k v at').1 = true := by
  intro k
  induction k with
  | zero => intro v at' h; omega
  | succ k ih =>
    intro v at' _ h
    rw [rdN] at h ⊢
    split at h
    · cases h
    · split at h
      · rename_i h1 h2
        rw [if_neg h1, if_pos h2]
        by_cases hk : k = 0
        · subst hk
          simp only [rdN] at h2 ⊢
          simpa using h2
        · exact ih _ _ (by omega) h
      · cases h
theorem rdN_zero (l : List Nat) (L : List (Nat × Nat)) : ∀ k v at', (rdN l L k v at').2.2 = true → (rdN l L k v at').1 = 0 := by
  intro k
  induction k with
  | zero => intro v at' h; cases h
  | succ k ih =>
    intro v at' h
    rw [rdN] at h ⊢
    split
    · rfl
    · split
      · rename_i h1 h2
        rw [if_neg h1, if_pos h2] at h
        exact ih _ _ h
      · rfl
/-- a number that was read is one of those that may be, or zero -/
theorem rdS_one {l : List Nat} {lo hi k at' : Nat} {st : Bool} (hk : 0 < k) : (rdS l [(lo, hi)] k at' st).1 ≤ hi := by
  unfold rdS
  split
  · exact Nat.zero_le _
  · cases h : (rdN l [(lo, hi)] k 0 at').2.2 with
    | false =>
      have := rdN_in l [(lo, hi)] k 0 at' hk h
      simp [meets] at this
      exact this.2
    | true => rw [rdN_zero l _ k 0 at' h]; exact Nat.zero_le _
section
variable {l : List Nat} {c : Nat} {s : PV × Nat × Bool}
theorem step_num (i n : Nat) (h1 : hasB c (2 ^ i) = true) (h2 : (bnd n).1 = i) (h3 : mayL n s.1.a s.1.b = nmsL c i s.1.a s.1.b) : dStep l c s i = fieldF l s.1 s.2.1 s.2.2 (.num n) := by
  subst h2
  unfold dStep
  rw [if_pos h1, ← h3]
  rfl
theorem step_no (i : Nat) (h : hasB c (2 ^ i) = false) : dStep l c s i = s := by
  unfold dStep
  rw [h]
  rfl
theorem g_yes (h : hasB c 32 = true) : dG l c s = fieldF l s.1 s.2.1 s.2.2 .ids := by unfold dG; rw [if_pos h]
theorem g_no (h : hasB c 32 = false) : dG l c s = s := by unfold dG; rw [h]; rfl
theorem s_yes (t : Bool) (h : hasB c 64 = true) (h2 : smayL t s.1.e = zL c s.1.e) : dS l c s = fieldF l s.1 s.2.1 s.2.2 (.sum t) := by unfold dS; rw [if_pos h, ← h2]; rfl
theorem s_no (h : hasB c 64 = false) : dS l c s = s := by unfold dS; rw [h]; rfl
theorem d_yes (lo hi : Nat) (t : Bool) (h : hasB c 128 = true) (h2 : dmayL lo hi t s.1.e = lenL c s.1.e) : dD l c s = fieldF l s.1 s.2.1 s.2.2 (.dat lo hi t) := by unfold dD dLn; rw [if_pos h, ← h2]; rfl
theorem d_no (h : hasB c 128 = false) : dD l c s = s := by unfold dD; rw [h]; rfl
end
theorem field_b {l : List Nat} {s : PV × Nat × Bool} : (fieldF l s.1 s.2.1 s.2.2 (.num 8)).1.b ≤ 64 := Nat.le_trans (rdS_one (l := l) (lo := 0) (hi := 63) (at' := s.2.1) (st := s.2.2) (by decide)) (by decide)
theorem field_e {l : List Nat} {s : PV × Nat × Bool} : (fieldF l s.1 s.2.1 s.2.2 (.num 16)).1.e ≤ 1 := rdS_one (l := l) (lo := 0) (hi := 1) (at' := s.2.1) (st := s.2.2) (by decide)
theorem tied_eq {e : Nat} (h : e ≤ 1) : smayL true e = zL 15 e := by
  rcases (show e = 0 ∨ e = 1 by omega) with rfl | rfl <;> rfl
theorem rest_1 (l : List Nat) : dRest l 1 = decS l (fdL 1) (fdL 1).length PV.zero 1 false := by
  show dD l 1 (dS l 1 (dG l 1 (dStep l 1 (dStep l 1 (dStep l 1 (dStep l 1 (dStep l 1 (PV.zero, 1, false) 0) 1) 2) 3) 4))) = _
  rw [step_num 0 0 rfl rfl rfl]
  rw [step_no 1 rfl]
  rw [step_no 2 rfl]
  rw [step_num 3 1 rfl rfl rfl]
  rw [step_num 4 4 rfl rfl rfl]
  rw [g_no rfl]
  rw [s_no rfl]
  rw [d_no rfl]
  rfl
theorem rest_2 (l : List Nat) : dRest l 2 = decS l (fdL 2) (fdL 2).length PV.zero 1 false := by
  show dD l 2 (dS l 2 (dG l 2 (dStep l 2 (dStep l 2 (dStep l 2 (dStep l 2 (dStep l 2 (PV.zero, 1, false) 0) 1) 2) 3) 4))) = _
  rw [step_no 0 rfl]
  rw [step_no 1 rfl]
  rw [step_no 2 rfl]
  rw [step_no 3 rfl]
  rw [step_no 4 rfl]
  rw [g_no rfl]
  rw [s_no rfl]
  rw [d_yes 16 16 false rfl rfl]
  rfl
theorem rest_3 (l : List Nat) : dRest l 3 = decS l (fdL 3) (fdL 3).length PV.zero 1 false := by
  show dD l 3 (dS l 3 (dG l 3 (dStep l 3 (dStep l 3 (dStep l 3 (dStep l 3 (dStep l 3 (PV.zero, 1, false) 0) 1) 2) 3) 4))) = _
  rw [step_no 0 rfl]
  rw [step_no 1 rfl]
  rw [step_no 2 rfl]
  rw [step_no 3 rfl]
  rw [step_no 4 rfl]
  rw [g_no rfl]
  rw [s_yes false rfl rfl]
  rw [d_no rfl]
  rfl
theorem rest_4 (l : List Nat) : dRest l 4 = decS l (fdL 4) (fdL 4).length PV.zero 1 false := by
  show dD l 4 (dS l 4 (dG l 4 (dStep l 4 (dStep l 4 (dStep l 4 (dStep l 4 (dStep l 4 (PV.zero, 1, false) 0) 1) 2) 3) 4))) = _
  rw [step_no 0 rfl]
  rw [step_num 1 2 rfl rfl rfl]
  rw [step_no 2 rfl]
  rw [step_num 3 3 rfl rfl rfl]
  rw [step_num 4 4 rfl rfl rfl]
  rw [g_no rfl]
  rw [s_no rfl]
  rw [d_no rfl]
  rfl
theorem rest_5 (l : List Nat) : dRest l 5 = decS l (fdL 5) (fdL 5).length PV.zero 1 false := by
  show dD l 5 (dS l 5 (dG l 5 (dStep l 5 (dStep l 5 (dStep l 5 (dStep l 5 (dStep l 5 (PV.zero, 1, false) 0) 1) 2) 3) 4))) = _
  rw [step_no 0 rfl]
  rw [step_no 1 rfl]
  rw [step_no 2 rfl]
  rw [step_num 3 5 rfl rfl rfl]
  rw [step_num 4 6 rfl rfl rfl]
  rw [g_yes rfl]
  rw [s_no rfl]
  rw [d_no rfl]
  rfl
theorem rest_6 (l : List Nat) : dRest l 6 = decS l (fdL 6) (fdL 6).length PV.zero 1 false := by
  show dD l 6 (dS l 6 (dG l 6 (dStep l 6 (dStep l 6 (dStep l 6 (dStep l 6 (dStep l 6 (PV.zero, 1, false) 0) 1) 2) 3) 4))) = _
  rw [step_no 0 rfl]
  rw [step_no 1 rfl]
  rw [step_no 2 rfl]
  rw [step_no 3 rfl]
  rw [step_num 4 7 rfl rfl rfl]
  rw [g_no rfl]
  rw [s_no rfl]
  rw [d_no rfl]
  rfl
theorem rest_7 (l : List Nat) : dRest l 7 = decS l (fdL 7) (fdL 7).length PV.zero 1 false := by
  show dD l 7 (dS l 7 (dG l 7 (dStep l 7 (dStep l 7 (dStep l 7 (dStep l 7 (dStep l 7 (PV.zero, 1, false) 0) 1) 2) 3) 4))) = _
  rw [step_no 0 rfl]
  rw [step_num 1 8 rfl rfl rfl]
  rw [step_no 2 rfl]
  rw [step_num 3 9 rfl rfl (by have h := field_b (l := l) (s := (PV.zero, 1, false)); unfold mayL nmsL cntL; simp only [Nat.reduceEqDiff, if_false, if_true, if_pos h, reduceIte])]
  rw [step_no 4 rfl]
  rw [g_no rfl]
  rw [s_no rfl]
  rw [d_yes 1 256 false rfl rfl]
  rfl
theorem rest_8 (l : List Nat) : dRest l 8 = decS l (fdL 8) (fdL 8).length PV.zero 1 false := by
  show dD l 8 (dS l 8 (dG l 8 (dStep l 8 (dStep l 8 (dStep l 8 (dStep l 8 (dStep l 8 (PV.zero, 1, false) 0) 1) 2) 3) 4))) = _
  rw [step_num 0 10 rfl rfl rfl]
  rw [step_num 1 11 rfl rfl rfl]
  rw [step_num 2 12 rfl rfl rfl]
  rw [step_no 3 rfl]
  rw [step_no 4 rfl]
  rw [g_no rfl]
  rw [s_no rfl]
  rw [d_yes 1 1024 false rfl rfl]
  rfl
theorem rest_9 (l : List Nat) : dRest l 9 = decS l (fdL 9) (fdL 9).length PV.zero 1 false := by
  show dD l 9 (dS l 9 (dG l 9 (dStep l 9 (dStep l 9 (dStep l 9 (dStep l 9 (dStep l 9 (PV.zero, 1, false) 0) 1) 2) 3) 4))) = _
  rw [step_num 0 10 rfl rfl rfl]
  rw [step_num 1 11 rfl rfl rfl]
  rw [step_num 2 12 rfl rfl rfl]
  rw [step_no 3 rfl]
  rw [step_no 4 rfl]
  rw [g_no rfl]
  rw [s_no rfl]
  rw [d_no rfl]
  rfl
theorem rest_10 (l : List Nat) : dRest l 10 = decS l (fdL 10) (fdL 10).length PV.zero 1 false := by
  show dD l 10 (dS l 10 (dG l 10 (dStep l 10 (dStep l 10 (dStep l 10 (dStep l 10 (dStep l 10 (PV.zero, 1, false) 0) 1) 2) 3) 4))) = _
  rw [step_num 0 10 rfl rfl rfl]
  rw [step_num 1 11 rfl rfl rfl]
  rw [step_no 2 rfl]
  rw [step_no 3 rfl]
  rw [step_no 4 rfl]
  rw [g_no rfl]
  rw [s_no rfl]
  rw [d_no rfl]
  rfl
theorem rest_11 (l : List Nat) : dRest l 11 = decS l (fdL 11) (fdL 11).length PV.zero 1 false := by
  show dD l 11 (dS l 11 (dG l 11 (dStep l 11 (dStep l 11 (dStep l 11 (dStep l 11 (dStep l 11 (PV.zero, 1, false) 0) 1) 2) 3) 4))) = _
  rw [step_num 0 10 rfl rfl rfl]
  rw [step_num 1 11 rfl rfl rfl]
  rw [step_no 2 rfl]
  rw [step_no 3 rfl]
  rw [step_no 4 rfl]
  rw [g_no rfl]
  rw [s_no rfl]
  rw [d_no rfl]
  rfl
theorem rest_12 (l : List Nat) : dRest l 12 = decS l (fdL 12) (fdL 12).length PV.zero 1 false := by
  show dD l 12 (dS l 12 (dG l 12 (dStep l 12 (dStep l 12 (dStep l 12 (dStep l 12 (dStep l 12 (PV.zero, 1, false) 0) 1) 2) 3) 4))) = _
  rw [step_num 0 10 rfl rfl rfl]
  rw [step_num 1 11 rfl rfl rfl]
  rw [step_no 2 rfl]
  rw [step_no 3 rfl]
  rw [step_num 4 14 rfl rfl rfl]
  rw [g_no rfl]
  rw [s_no rfl]
  rw [d_no rfl]
  rfl
theorem rest_13 (l : List Nat) : dRest l 13 = decS l (fdL 13) (fdL 13).length PV.zero 1 false := by
  show dD l 13 (dS l 13 (dG l 13 (dStep l 13 (dStep l 13 (dStep l 13 (dStep l 13 (dStep l 13 (PV.zero, 1, false) 0) 1) 2) 3) 4))) = _
  rw [step_no 0 rfl]
  rw [step_no 1 rfl]
  rw [step_num 2 12 rfl rfl rfl]
  rw [step_num 3 13 rfl rfl rfl]
  rw [step_no 4 rfl]
  rw [g_no rfl]
  rw [s_no rfl]
  rw [d_no rfl]
  rfl
theorem rest_14 (l : List Nat) : dRest l 14 = decS l (fdL 14) (fdL 14).length PV.zero 1 false := by
  show dD l 14 (dS l 14 (dG l 14 (dStep l 14 (dStep l 14 (dStep l 14 (dStep l 14 (dStep l 14 (PV.zero, 1, false) 0) 1) 2) 3) 4))) = _
  rw [step_no 0 rfl]
  rw [step_no 1 rfl]
  rw [step_num 2 12 rfl rfl rfl]
  rw [step_num 3 13 rfl rfl rfl]
  rw [step_no 4 rfl]
  rw [g_no rfl]
  rw [s_no rfl]
  rw [d_no rfl]
  rfl
theorem rest_15 (l : List Nat) : dRest l 15 = decS l (fdL 15) (fdL 15).length PV.zero 1 false := by
  show dD l 15 (dS l 15 (dG l 15 (dStep l 15 (dStep l 15 (dStep l 15 (dStep l 15 (dStep l 15 (PV.zero, 1, false) 0) 1) 2) 3) 4))) = _
  rw [step_num 0 10 rfl rfl rfl]
  rw [step_num 1 11 rfl rfl rfl]
  rw [step_no 2 rfl]
  rw [step_no 3 rfl]
  rw [step_num 4 16 rfl rfl rfl]
  rw [g_no rfl]
  rw [s_yes true rfl (tied_eq field_e)]
  rw [d_no rfl]
  rfl
theorem rest_16 (l : List Nat) : dRest l 16 = decS l (fdL 16) (fdL 16).length PV.zero 1 false := by
  show dD l 16 (dS l 16 (dG l 16 (dStep l 16 (dStep l 16 (dStep l 16 (dStep l 16 (dStep l 16 (PV.zero, 1, false) 0) 1) 2) 3) 4))) = _
  rw [step_num 0 10 rfl rfl rfl]
  rw [step_num 1 11 rfl rfl rfl]
  rw [step_no 2 rfl]
  rw [step_no 3 rfl]
  rw [step_no 4 rfl]
  rw [g_no rfl]
  rw [s_no rfl]
  rw [d_no rfl]
  rfl
theorem rest_17 (l : List Nat) : dRest l 17 = decS l (fdL 17) (fdL 17).length PV.zero 1 false := by
  show dD l 17 (dS l 17 (dG l 17 (dStep l 17 (dStep l 17 (dStep l 17 (dStep l 17 (dStep l 17 (PV.zero, 1, false) 0) 1) 2) 3) 4))) = _
  rw [step_num 0 10 rfl rfl rfl]
  rw [step_num 1 11 rfl rfl rfl]
  rw [step_no 2 rfl]
  rw [step_no 3 rfl]
  rw [step_no 4 rfl]
  rw [g_no rfl]
  rw [s_no rfl]
  rw [d_yes 1 1024 false rfl rfl]
  rfl
theorem rest_18 (l : List Nat) : dRest l 18 = decS l (fdL 18) (fdL 18).length PV.zero 1 false := by
  show dD l 18 (dS l 18 (dG l 18 (dStep l 18 (dStep l 18 (dStep l 18 (dStep l 18 (dStep l 18 (PV.zero, 1, false) 0) 1) 2) 3) 4))) = _
  rw [step_num 0 10 rfl rfl rfl]
  rw [step_num 1 11 rfl rfl rfl]
  rw [step_no 2 rfl]
  rw [step_no 3 rfl]
  rw [step_no 4 rfl]
  rw [g_no rfl]
  rw [s_no rfl]
  rw [d_no rfl]
  rfl
theorem rest_19 (l : List Nat) : dRest l 19 = decS l (fdL 19) (fdL 19).length PV.zero 1 false := by
  show dD l 19 (dS l 19 (dG l 19 (dStep l 19 (dStep l 19 (dStep l 19 (dStep l 19 (dStep l 19 (PV.zero, 1, false) 0) 1) 2) 3) 4))) = _
  rw [step_no 0 rfl]
  rw [step_no 1 rfl]
  rw [step_no 2 rfl]
  rw [step_num 3 17 rfl rfl rfl]
  rw [step_no 4 rfl]
  rw [g_no rfl]
  rw [s_no rfl]
  rw [d_no rfl]
  rfl
theorem rest_20 (l : List Nat) : dRest l 20 = decS l (fdL 20) (fdL 20).length PV.zero 1 false := by
  show dD l 20 (dS l 20 (dG l 20 (dStep l 20 (dStep l 20 (dStep l 20 (dStep l 20 (dStep l 20 (PV.zero, 1, false) 0) 1) 2) 3) 4))) = _
  rw [step_num 0 10 rfl rfl rfl]
  rw [step_num 1 11 rfl rfl rfl]
  rw [step_no 2 rfl]
  rw [step_no 3 rfl]
  rw [step_no 4 rfl]
  rw [g_no rfl]
  rw [s_yes false rfl rfl]
  rw [d_no rfl]
  rfl
theorem rest_21 (l : List Nat) : dRest l 21 = decS l (fdL 21) (fdL 21).length PV.zero 1 false := by
  show dD l 21 (dS l 21 (dG l 21 (dStep l 21 (dStep l 21 (dStep l 21 (dStep l 21 (dStep l 21 (PV.zero, 1, false) 0) 1) 2) 3) 4))) = _
  rw [step_num 0 10 rfl rfl rfl]
  rw [step_num 1 11 rfl rfl rfl]
  rw [step_no 2 rfl]
  rw [step_no 3 rfl]
  rw [step_num 4 16 rfl rfl rfl]
  rw [g_no rfl]
  rw [s_no rfl]
  rw [d_no rfl]
  rfl
theorem rest_22 (l : List Nat) : dRest l 22 = decS l (fdL 22) (fdL 22).length PV.zero 1 false := by
  show dD l 22 (dS l 22 (dG l 22 (dStep l 22 (dStep l 22 (dStep l 22 (dStep l 22 (dStep l 22 (PV.zero, 1, false) 0) 1) 2) 3) 4))) = _
  rw [step_no 0 rfl]
  rw [step_no 1 rfl]
  rw [step_no 2 rfl]
  rw [step_num 3 17 rfl rfl rfl]
  rw [step_no 4 rfl]
  rw [g_no rfl]
  rw [s_no rfl]
  rw [d_no rfl]
  rfl
theorem rest_23 (l : List Nat) : dRest l 23 = decS l (fdL 23) (fdL 23).length PV.zero 1 false := by
  show dD l 23 (dS l 23 (dG l 23 (dStep l 23 (dStep l 23 (dStep l 23 (dStep l 23 (dStep l 23 (PV.zero, 1, false) 0) 1) 2) 3) 4))) = _
  rw [step_no 0 rfl]
  rw [step_no 1 rfl]
  rw [step_no 2 rfl]
  rw [step_no 3 rfl]
  rw [step_no 4 rfl]
  rw [g_yes rfl]
  rw [s_no rfl]
  rw [d_no rfl]
  rfl
theorem rest_24 (l : List Nat) : dRest l 24 = decS l (fdL 24) (fdL 24).length PV.zero 1 false := by
  show dD l 24 (dS l 24 (dG l 24 (dStep l 24 (dStep l 24 (dStep l 24 (dStep l 24 (dStep l 24 (PV.zero, 1, false) 0) 1) 2) 3) 4))) = _
  rw [step_num 0 10 rfl rfl rfl]
  rw [step_num 1 11 rfl rfl rfl]
  rw [step_no 2 rfl]
  rw [step_no 3 rfl]
  rw [step_no 4 rfl]
  rw [g_no rfl]
  rw [s_no rfl]
  rw [d_no rfl]
  rfl
theorem rest_25 (l : List Nat) : dRest l 25 = decS l (fdL 25) (fdL 25).length PV.zero 1 false := by
  show dD l 25 (dS l 25 (dG l 25 (dStep l 25 (dStep l 25 (dStep l 25 (dStep l 25 (dStep l 25 (PV.zero, 1, false) 0) 1) 2) 3) 4))) = _
  rw [step_num 0 10 rfl rfl rfl]
  rw [step_num 1 11 rfl rfl rfl]
  rw [step_no 2 rfl]
  rw [step_no 3 rfl]
  rw [step_num 4 15 rfl rfl rfl]
  rw [g_no rfl]
  rw [s_no rfl]
  rw [d_yes 1 1024 true rfl (by unfold dmayL lenL; simp)]
  rfl
theorem rest_eq (l : List Nat) (c : Nat) (h1 : 1 ≤ c) (h2 : c ≤ 25) : dRest l c = decS l (fdL c) (fdL c).length PV.zero 1 false := by
  rcases (show c = 1 ∨ c = 2 ∨ c = 3 ∨ c = 4 ∨ c = 5 ∨ c = 6 ∨ c = 7 ∨ c = 8 ∨ c = 9 ∨ c = 10 ∨ c = 11 ∨ c = 12 ∨ c = 13 ∨ c = 14 ∨ c = 15 ∨ c = 16 ∨ c = 17 ∨ c = 18 ∨ c = 19 ∨ c = 20 ∨ c = 21 ∨ c = 22 ∨ c = 23 ∨ c = 24 ∨ c = 25 by omega) with rfl | rfl | rfl | rfl | rfl | rfl | rfl | rfl | rfl | rfl | rfl | rfl | rfl | rfl | rfl | rfl | rfl | rfl | rfl | rfl | rfl | rfl | rfl | rfl | rfl
  · exact rest_1 l
  · exact rest_2 l
  · exact rest_3 l
  · exact rest_4 l
  · exact rest_5 l
  · exact rest_6 l
  · exact rest_7 l
  · exact rest_8 l
  · exact rest_9 l
  · exact rest_10 l
  · exact rest_11 l
  · exact rest_12 l
  · exact rest_13 l
  · exact rest_14 l
  · exact rest_15 l
  · exact rest_16 l
  · exact rest_17 l
  · exact rest_18 l
  · exact rest_19 l
  · exact rest_20 l
  · exact rest_21 l
  · exact rest_22 l
  · exact rest_23 l
  · exact rest_24 l
  · exact rest_25 l
end Go.Proofs.YtcjilmafdpnfeaaDoor
namespace Go.Proofs.YtcjilmafdpnfeaaDoor
open Go.RowKit
open Num
set_option linter.unusedVariables false
set_option linter.unusedSimpArgs false
set_option maxRecDepth 20000

/-- the document's reader in memory -/
structure QR (w : World) (rb b off cap : Nat) (l : List Nat) (at' : Nat) : Prop where
  row : w.heap[rb]? = some (.cells #[.slice (some ⟨b, off, none⟩) l.length cap, .int .i64 (at' : Int)] 60 (0, 0))
  h1 : l.length ≤ cap
  h2 : cap ≤ maxLen
  hb : ∀ x ∈ l, x < 256
  dat : ∀ i, i < l.length → w.cell? ⟨b, off + i, none⟩ = some (.int .u8 (l.getD i 0 : Nat))
  ne : b ≠ rb
section
variable {w x : World} {rb b off cap at' : Nat} {l : List Nat}
theorem QR.same (h : QR w rb b off cap l at') (hr : x.heap[rb]? = w.heap[rb]?) (hb : x.heap[b]? = w.heap[b]?) : QR x rb b off cap l at' :=
  ⟨hr.trans h.row, h.h1, h.h2, h.hb, fun i hi => (World.cell?_of_block hb).trans (h.dat i hi), h.ne⟩
theorem QR.below (h : QR w rb b off cap l at') (hb : Below w.heap.size w x) : QR x rb b off cap l at' := by
  have hr := (Array.getElem?_eq_some_iff.1 h.row).1
  refine ⟨(hb.block rb hr).trans h.row, h.h1, h.h2, h.hb, fun i hi => ?_, h.ne⟩
  have hc := h.dat i hi
  exact (hb.cell (p := ⟨b, off + i, none⟩) (World.block_lt_of_cell? w _ hc)).trans hc
theorem QR.go (h : QR w rb b off cap l at') (q : Nat) : QR (w.setCell ⟨rb, 1, none⟩ (.int .i64 (q : Int))) rb b off cap l q :=
  ⟨by rw [Go.heap_setCell_same w rb 1 _ 60 _ h.row]; rfl, h.h1, h.h2, h.hb, fun i hi => (World.cell?_of_block (Go.heap_setCell_other _ _ _ _ (by exact h.ne))).trans (h.dat i hi), h.ne⟩
theorem QR.cells (h : QR w rb b off cap l at') : w.cell? ⟨rb, 0, none⟩ = some (.slice (some ⟨b, off, none⟩) l.length cap) ∧ w.cell? ⟨rb, 1, none⟩ = some (.int .i64 (at' : Int)) ∧ w.frozen? ⟨rb, 1, none⟩ = false :=
  ⟨by rw [cell_of_row _ _ _ _ _ _ h.row]; rfl, by rw [cell_of_row _ _ _ _ _ _ h.row]; rfl, frozen_of_row _ _ _ _ _ h.row⟩
end
theorem SpI.oth {rb : Nat} {w x : World} {v : Value} {L : List (Nat × Nat)} (h : SpI w v L) (ho : Oth rb w x) (hne : v.ownBlock ≠ some rb) : SpI x v L := by
  obtain ⟨b, off, cap, rfl, h1, h2, h3, h4⟩ := h
  have hne' : b ≠ rb := fun e => hne (by simp [Value.ownBlock, e])
  refine ⟨b, off, cap, rfl, h1, h2, h3, fun i hi => ?_⟩
  obtain ⟨c0, c1⟩ := h4 i hi
  have hl := World.block_lt_of_cell? w _ c0
  exact ⟨(World.cell?_of_block (ho.block b hl hne')).trans c0, (World.cell?_of_block (ho.block b hl hne')).trans c1⟩
theorem qn_num {y x k width : Nat} (hk : k < width) (hw : width ≤ 4) (hy : y < 256 ^ k) (hx : x < 256) : ∃ z lo p s hi : Nat, z = y * 256 + x ∧ lo = z * 256 ^ (width - k - 1) ∧ hi = lo + (256 ^ (width - k - 1) - 1) ∧ z < 256 ^ (k + 1) ∧ z < 4294967296 ∧ lo < 4294967296 ∧ hi < 4294967296 ∧ p ≤ 4294967296 ∧ s < 8589934592 ∧
    (256 : Int) * (y : Int) + (x : Int) = (z : Int) ∧ (z : Int) * 2 ^ (8 * (width - 1 - k)) = (lo : Int) ∧ (2 : Int) ^ (8 * (width - 1 - k)) = (p : Int) ∧ (lo : Int) + (p : Int) = (s : Int) ∧ (s : Int) - 1 = (hi : Int) := by
  have e1 : width - 1 - k = width - k - 1 := by omega
  rw [e1]
  obtain ⟨m, hm⟩ : ∃ m, m = width - k - 1 := ⟨_, rfl⟩
  rw [← hm]
  have hz : y * 256 + x < 256 ^ (k + 1) := by rw [Nat.pow_succ]; omega
  have hp : 0 < 256 ^ m := Nat.pow_pos (by decide)
  have htop : 256 ^ (k + 1) * 256 ^ m ≤ 4294967296 := by
    rw [← Nat.pow_add]
    exact Nat.le_trans (Nat.pow_le_pow_right (by decide) (show k + 1 + m ≤ 4 by omega)) (by decide)
  have h1 : (y * 256 + x + 1) * 256 ^ m ≤ 4294967296 := Nat.le_trans (Nat.mul_le_mul_right _ hz) htop
  have h2 : (y * 256 + x + 1) * 256 ^ m = (y * 256 + x) * 256 ^ m + 256 ^ m := by rw [Nat.add_mul, Nat.one_mul]
  have h3 : 256 ^ m = 2 ^ (8 * m) := by rw [Nat.pow_mul]
  have hz2 : y * 256 + x ≤ (y * 256 + x) * 256 ^ m := Nat.le_mul_of_pos_right _ hp
  refine ⟨y * 256 + x, (y * 256 + x) * 256 ^ m, 256 ^ m, (y * 256 + x) * 256 ^ m + 256 ^ m, (y * 256 + x) * 256 ^ m + (256 ^ m - 1), rfl, rfl, rfl, hz, by omega, by omega, by omega, by omega, by omega, by omega, ?_, ?_, by omega, by omega⟩
  · rw [h3]; simp
  · rw [h3]; simp
theorem wr64 (n : Int) (h : -9223372036854775808 ≤ n ∧ n ≤ 9223372036854775807) : wrap64 n = n := by unfold wrap64; omega
theorem meets_take {L : List (Nat × Nat)} {j lo hi : Nat} (h : j < L.length) : meets (L.take (j + 1)) lo hi = (meets (L.take j) lo hi || (decide ((L.getD j (0, 0)).1 ≤ hi) && decide (lo ≤ (L.getD j (0, 0)).2))) := by
  have hst : L.take (j + 1) = L.take j ++ [L.getD j (0, 0)] := by
    rw [List.take_succ_eq_append_getElem h]; simp [List.getD, h]
  rw [hst]
  simp [meets]
set_option maxHeartbeats 2000000 in
theorem qnumber_any (w : World) (rb b off cap at' width : Nat) (l : List Nat) (L : List (Nat × Nat)) (v : Value) (h : QR w rb b off cap l at') (hs : SpI w v L) (hne : v.ownBlock ≠ some rb) (hw : width ≤ 4) (ha : at' ≤ l.length) :
    Calls Tryd.prog 26 #[.pointer (some ⟨rb, 0, none⟩), .int .i64 (width : Int), v] w fun e' w' => e' = .returned (.tuple #[.int .i64 ((rdN l L width 0 at').1 : Nat), .bool (!(rdN l L width 0 at').2.2)]) ∧ QR w' rb b off cap l (rdN l L width 0 at').2.1 ∧ Oth rb w w' := by
  have HR := hide h
  have HSL := hide fun x (ho : Oth rb w x) => hs.oth ho hne
  have hcap := h.h2
  have hlc := h.h1
  unfold maxLen at hcap
  obtain ⟨sb, soff, scap, rfl, hs1, hs2, hs3, _⟩ := id hs
  unfold maxLen at hs2
  have HS3 := hide hs3
  have HBY := hide h.hb
  clear h hs hne hs3
  rename_i dead1
  clear dead1
  go_enter Tryd.func26, Tryd.ntmps26
  go_wp2_with fail
  go_loopw [8, 9] (fun u i wr => ∃ k y : Nat, k ≤ width ∧ i = .int .i64 k ∧ u = .int .i64 (y : Int) ∧ y < 256 ^ k ∧ at' + k ≤ l.length ∧ Hid (rdN l L width 0 at' = rdN l L (width - k) y (at' + k)) ∧ QR wr rb b off cap l (at' + k) ∧ Oth rb w wr) (fun _ i _ => width - (intOf i).toNat)
  case atStart => exact ⟨0, 0, Nat.zero_le _, rfl, rfl, by decide, ha, hide rfl, HR.out, Oth.refl _ _⟩
  case round =>
    clear HR
    obtain ⟨k, y, hk, rfl, rfl, hy, hal, heq, hrd, hoth⟩ := hrel
    have HRD := hide hrd
    have HOT := hide hoth
    obtain ⟨c0, c1, f1⟩ := hrd.cells
    by_cases hlt : k < width
    · by_cases hend : at' + k = l.length
      · have HF : Hid (rdN l L width 0 at' = (0, at' + k, true)) := hide (by rw [heq.out, show width - k = (width - k - 1) + 1 by omega, rdN, if_pos (by omega)])
        have b1 : l.length ≤ at' + k := by omega
        clear hrd hoth heq
        generalize at' + k = q at *
        go_wp2_with fail
        go_quiet (fail)
        go_wp2_with fail
        go_ret2
        exact ⟨by rw [HF.out]; rfl, by rw [HF.out]; exact HRD.out.same rfl rfl, HOT.out.drewN _⟩
      · have hx : l.getD (at' + k) 0 < 256 := HBY.out _ (by simp [List.getD, show at' + k < l.length by omega])
        have cb := hrd.dat (at' + k) (by omega)
        have hql : at' + k < l.length := by omega
        have b1 : ¬ l.length ≤ at' + k := by omega
        obtain ⟨z, lo, p, s, hi, ez, elo, ehi, z1, z2, z3, z4, z5, z6, q1, q2, q3, q4, q5⟩ := qn_num hlt hw hy hx
        have HST : Hid (rdN l L width 0 at' = if meets L lo hi then rdN l L (width - (k + 1)) z (at' + (k + 1)) else (0, at' + k, true)) := hide (by
          rw [heq.out, show width - k = (width - k - 1) + 1 by omega, rdN, if_neg (by omega), ← ez, ← elo, ← ehi, show width - (k + 1) = width - k - 1 by omega, show at' + (k + 1) = at' + k + 1 by omega])
        have HE2 : Hid (wrap64 ((z : Int) * 2 ^ (8 * (width - 1 - k))) = (lo : Int)) := hide (by rw [q2, wr64 _ (by omega)])
        have HE3 : Hid (wrap64 (wrap64 ((lo : Int) + wrap64 (2 ^ (8 * (width - 1 - k)))) - 1) = (hi : Int)) := hide (by
          rw [q3, wr64 (p : Int) (by omega), q4, wr64 (s : Int) (by omega), q5, wr64 _ (by omega)])
        clear hrd hoth heq ez elo ehi q2 q3 q4 q5
        generalize l.getD (at' + k) 0 = x at *
        have HQ : Hid (at' + k + 1 = at' + (k + 1)) := hide (by omega)
        have HQL : Hid (at' + (k + 1) ≤ l.length) := hide (by omega)
        generalize at' + k = q at *
        go_wp2_with fail
        go_quiet (fail)
        go_wp2_with fail
        go_quiet (fail)
        go_wp2_with fail
        rw [HE2.out, HE3.out]
        generalize hwd : wr.drewN _ = wd at *
        have HRD2 : Hid (QR wd rb b off cap l q) := hide (by rw [← hwd]; exact HRD.out.same rfl rfl)
        have HOT2 : Hid (Oth rb w wd) := hide (by rw [← hwd]; exact HOT.out.drewN _)
        obtain ⟨sb', so', sc', e9, _, _, _, hcl⟩ := HSL.out wd HOT2.out
        simp only [Value.slice.injEq, Option.some.injEq, Addr.mk.injEq] at e9
        obtain ⟨⟨rfl, rfl, -⟩, -, rfl⟩ := e9
        have HCL := hide hcl
        clear hcl hwd cb c0 c1 f1 HRD HOT
        go_loopw [14, 15] (fun ok kk wx => ∃ j : Nat, j ≤ L.length ∧ kk = .int .i64 (j : Int) ∧ ok = .bool (meets (L.take j) lo hi) ∧ wx = wd) (fun _ kk _ => L.length - (intOf kk).toNat)
        case atStart => exact ⟨0, Nat.zero_le _, rfl, by simp [meets], rfl⟩
        case round =>
          obtain ⟨j, hj, rfl, rfl, hwx⟩ := hrel
          subst hwx
          by_cases hjl : j < L.length
          · obtain ⟨d1, d2⟩ := HCL.out j hjl
            rw [show soff + 2 * j = soff + j * 2 by omega] at d1 d2
            have HMT := hide (meets_take (lo := lo) (hi := hi) hjl)
            obtain ⟨l1, l2⟩ := HS3.out (L.getD j (0, 0)) (by simp [List.getD, hjl])
            generalize (L.getD j (0, 0)).1 = lj at *
            generalize (L.getD j (0, 0)).2 = hj2 at *
            generalize meets (L.take j) lo hi = mj at *
            by_cases a1 : lo ≤ hj2
            · by_cases a2 : lj ≤ hi
              · have HMM : Hid (meets (L.take (j + 1)) lo hi = true) := hide (by rw [HMT.out]; simp [a1, a2])
                clear HMT
                go_wp2_with fail
                go_roundw
                case rel => exact ⟨j + 1, by omega, by go_num, by rw [HMM.out], by first | trivial | rfl⟩
                case measure => simp [intOf]; omega
              · have HMM : Hid (meets (L.take (j + 1)) lo hi = mj) := hide (by rw [HMT.out]; simp [a1, a2])
                clear HMT
                go_wp2_with fail
                go_roundw
                case rel => exact ⟨j + 1, by omega, by go_num, by rw [HMM.out], by first | trivial | rfl⟩
                case measure => simp [intOf]; omega
            · have HMM : Hid (meets (L.take (j + 1)) lo hi = mj) := hide (by rw [HMT.out]; simp [a1])
              clear HMT
              go_wp2_with fail
              go_roundw
              case rel => exact ⟨j + 1, by omega, by go_num, by rw [HMM.out], by first | trivial | rfl⟩
              case measure => simp [intOf]; omega
          · obtain rfl : j = L.length := by omega
            rw [List.take_length]
            obtain ⟨g0, g1, g2⟩ := HRD2.out.cells
            cases hm : meets L lo hi with
            | true =>
              have HS2 : Hid (rdN l L width 0 at' = rdN l L (width - (k + 1)) z (at' + (k + 1))) := hide (by rw [HST.out, hm]; rfl)
              clear hm HST
              go_wp2_with fail
              go_roundw
              case rel => exact ⟨k + 1, z, by omega, by go_num, rfl, z1, HQL.out, HS2, by rw [← HQ.out]; have := HRD2.out.go (q + 1); simpa using this, HOT2.out.set 1 _⟩
              case measure => simp [intOf]; omega
            | false =>
              have HS2 : Hid (rdN l L width 0 at' = (0, q, true)) := hide (by rw [HST.out, hm]; rfl)
              clear hm HST
              go_wp2_with fail
              go_ret2
              exact ⟨by rw [HS2.out]; rfl, by rw [HS2.out]; exact HRD2.out, HOT2.out⟩
    · obtain rfl : k = width := by omega
      have HF : Hid (rdN l L k 0 at' = (y, at' + k, false)) := hide (by rw [heq.out, Nat.sub_self, rdN])
      clear hrd hoth heq
      go_wp2_with fail
      go_ret2
      exact ⟨by rw [HF.out]; rfl, by rw [HF.out]; exact HRD.out, HOT.out⟩
end Go.Proofs.YtcjilmafdpnfeaaDoor
namespace Go.Proofs.YtcjilmafdpnfeaaDoor
open Go.RowKit
open Num
set_option linter.unusedVariables false
set_option linter.unusedSimpArgs false
set_option maxRecDepth 20000

theorem results_row_tmpQ {P : Program} {fn : Func} {p u : Tmp} {ty : TypeId} (h : fn.results = #[.cell p ty, .tmp u]) (tmps : Array Value) (w : World) (g : Nat) (t : TypeId) (cs : Array Value) (fr : Nat × Nat) (d : TypeDesc)
    (hp : tmps.getD p undef = .pointer (some ⟨g, 0, none⟩)) (hg : w.heap[g]? = some (.cells cs t fr))
    (hu : P.underlying ty = some d) (hd : (match d with | .struct _ | .array _ _ => true | _ => false) = true) (hi : (P.info? ty).map (·.size) = some cs.size) :
    (results fn tmps).run P w = .ok (.tuple #[.agg cs, tmps.getD u undef]) w := by
  have hp' : tmps[p]?.getD undef = .pointer (some ⟨g, 0, none⟩) := by simpa using hp
  simp [results, h, hp', asAddr, run_loadVar_row w g t ty cs fr d hg hu hd hi]
theorem rdS_false (l : List Nat) (L : List (Nat × Nat)) (k at' : Nat) : rdS l L k at' false = rdN l L k 0 at' := by unfold rdS; rw [if_neg (by decide)]
theorem rdS_true (l : List Nat) (L : List (Nat × Nat)) (k at' : Nat) : rdS l L k at' true = (0, at', true) := by unfold rdS; rw [if_pos rfl]
theorem rdN_end {l : List Nat} {L : List (Nat × Nat)} {k v at' : Nat} (hk : 0 < k) (h : l.length ≤ at') : rdN l L k v at' = (0, at', true) := by
  obtain ⟨j, rfl⟩ : ∃ j, k = j + 1 := ⟨k - 1, by omega⟩
  rw [rdN, if_pos h]
theorem meets_all (lo hi : Nat) (h1 : lo < 18446744073709551616) : meets [(0, 18446744073709551615)] lo hi = true := by
  simp [meets]; omega
/-- an identifier that could not be read: there the bytes are at their end -/
theorem long_end (l : List Nat) : ∀ k v at', v < 256 ^ (8 - k) → k ≤ 8 → (∀ x ∈ l, x < 256) → at' ≤ l.length → (rdN l [(0, 18446744073709551615)] k v at').2.2 = true → (rdN l [(0, 18446744073709551615)] k v at').2.1 = l.length := by
  intro k
  induction k with
  | zero => intro v at' _ _ _ _ h; cases h
  | succ k ih =>
    intro v at' hv hk hb ha h
    rw [rdN] at h ⊢
    by_cases hl : l.length ≤ at'
    · rw [if_pos hl]
      show at' = l.length
      omega
    · rw [if_neg hl] at h ⊢
      have hx : l.getD at' 0 < 256 := hb _ (by simp [List.getD, show at' < l.length by omega])
      obtain ⟨z, lo, p, pm, hi, ez, elo, ehi, z1, z2, z3, z4, q1, q2, q3, q4, q5, q6⟩ := rn_num (y := v) (k := 8 - (k + 1)) (width := 8) (by omega) (by omega) hv hx
      have hm : meets [(0, 18446744073709551615)] ((v * 256 + l.getD at' 0) * 256 ^ k) ((v * 256 + l.getD at' 0) * 256 ^ k + (256 ^ k - 1)) = true := meets_all _ _ (by rw [← ez, show k = 8 - (8 - (k + 1)) - 1 by omega, ← elo]; exact z3)
      rw [if_pos hm] at h ⊢
      exact ih _ _ (by rw [← ez, show 8 - k = 8 - (k + 1) + 1 by omega]; exact z1) (by omega) hb (by omega) h
set_option maxHeartbeats 2000000 in
theorem qlong_go (w : World) (rb b off cap at' : Nat) (l : List Nat) (h : QR w rb b off cap l at') (ha : at' ≤ l.length) :
    Calls Tryd.prog 35 #[.pointer (some ⟨rb, 0, none⟩)] w fun e' w' => e' = .returned (.tuple #[.int .u64 ((rdN l [(0, 18446744073709551615)] 8 0 at').1 : Nat), .bool (!(rdN l [(0, 18446744073709551615)] 8 0 at').2.2)]) ∧ QR w' rb b off cap l (rdN l [(0, 18446744073709551615)] 8 0 at').2.1 ∧ Oth rb w w' := by
  have HR := hide h
  have hcap := h.h2
  have hlc := h.h1
  unfold maxLen at hcap
  have HBY := hide h.hb
  clear h
  go_enter Tryd.func35, Tryd.ntmps35
  go_wp2_with fail
  go_loopw [4, 5] (fun u i wr => ∃ k y : Nat, k ≤ 8 ∧ i = .int .i64 k ∧ u = .int .u64 (y : Int) ∧ y < 256 ^ k ∧ at' + k ≤ l.length ∧ Hid (rdN l [(0, 18446744073709551615)] 8 0 at' = rdN l [(0, 18446744073709551615)] (8 - k) y (at' + k)) ∧ QR wr rb b off cap l (at' + k) ∧ Oth rb w wr) (fun _ i _ => 8 - (intOf i).toNat)
  case atStart => exact ⟨0, 0, Nat.zero_le _, rfl, rfl, by decide, ha, hide rfl, HR.out, Oth.refl _ _⟩
  case round =>
    clear HR
    obtain ⟨k, y, hk, rfl, rfl, hy, hal, heq, hrd, hoth⟩ := hrel
    have HRD := hide hrd
    have HOT := hide hoth
    obtain ⟨c0, c1, f1⟩ := hrd.cells
    by_cases hlt : k < 8
    · by_cases hend : at' + k = l.length
      · have HF : Hid (rdN l [(0, 18446744073709551615)] 8 0 at' = (0, at' + k, true)) := hide (by rw [heq.out, show 8 - k = (8 - k - 1) + 1 by omega, rdN, if_pos (by omega)])
        have b1 : l.length ≤ at' + k := by omega
        clear hrd hoth heq
        generalize at' + k = q at *
        go_wp2_with fail
        go_quiet (fail)
        go_wp2_with fail
        go_ret2
        exact ⟨by rw [HF.out]; rfl, by rw [HF.out]; exact HRD.out.same rfl rfl, HOT.out.drewN _⟩
      · have hx : l.getD (at' + k) 0 < 256 := HBY.out _ (by simp [List.getD, show at' + k < l.length by omega])
        have cb := hrd.dat (at' + k) (by omega)
        have hql : at' + k < l.length := by omega
        have b1 : ¬ l.length ≤ at' + k := by omega
        obtain ⟨z, lo, p, pm, hi, ez, elo, ehi, z1, z2, z3, z4, q1, q2, q3, q4, q5, q6⟩ := rn_num (y := y) (k := k) (width := 8) hlt (by omega) hy hx
        have HS2 : Hid (rdN l [(0, 18446744073709551615)] 8 0 at' = rdN l [(0, 18446744073709551615)] (8 - (k + 1)) z (at' + (k + 1))) := hide (by
          rw [heq.out, show 8 - k = (8 - k - 1) + 1 by omega, rdN, if_neg (by omega), ← ez, ← elo, ← ehi, if_pos (meets_all _ _ z3), show 8 - (k + 1) = 8 - k - 1 by omega, show at' + (k + 1) = at' + k + 1 by omega])
        clear hrd hoth heq ez elo ehi q3 q4 q5 q6
        generalize l.getD (at' + k) 0 = x at *
        have HQ : Hid (at' + k + 1 = at' + (k + 1)) := hide (by omega)
        have HQL : Hid (at' + (k + 1) ≤ l.length) := hide (by omega)
        generalize at' + k = q at *
        go_wp2_with fail
        go_quiet (fail)
        go_wp2_with fail
        go_quiet (fail)
        go_wp2_with fail
        generalize hwd : wr.drewN _ = wd at *
        have HRD2 : Hid (QR wd rb b off cap l q) := hide (by rw [← hwd]; exact HRD.out.same rfl rfl)
        have HOT2 : Hid (Oth rb w wd) := hide (by rw [← hwd]; exact HOT.out.drewN _)
        go_roundw
        case rel => exact ⟨k + 1, z, by omega, by go_num, by first | rfl | simp [q1, q2], z1, HQL.out, HS2, by rw [← HQ.out]; have := HRD2.out.go (q + 1); simpa using this, HOT2.out.set 1 _⟩
        case measure => simp [intOf]; omega
    · obtain rfl : k = 8 := by omega
      have HF : Hid (rdN l [(0, 18446744073709551615)] 8 0 at' = (y, at' + 8, false)) := hide (by rw [heq.out, Nat.sub_self, rdN])
      clear hrd hoth heq
      go_wp2_with fail
      go_ret2
      exact ⟨by rw [HF.out]; rfl, by rw [HF.out]; exact HRD.out, HOT.out⟩
/-- an identifier, where the reader may have stopped at the end -/
theorem qlong_any (w : World) (rb b off cap at' : Nat) (l : List Nat) (st : Bool) (h : QR w rb b off cap l at') (ha : at' ≤ l.length) (hst : st = true → at' = l.length) :
    Calls Tryd.prog 35 #[.pointer (some ⟨rb, 0, none⟩)] w fun e' w' => e' = .returned (.tuple #[.int .u64 ((rdS l [(0, 18446744073709551615)] 8 at' st).1 : Nat), .bool (!(rdS l [(0, 18446744073709551615)] 8 at' st).2.2)]) ∧ QR w' rb b off cap l (rdS l [(0, 18446744073709551615)] 8 at' st).2.1 ∧ Oth rb w w' := by
  have h0 := qlong_go w rb b off cap at' l h ha
  cases st with
  | false => rw [rdS_false]; exact h0
  | true => rw [rdS_true, ← rdN_end (l := l) (L := [(0, 18446744073709551615)]) (k := 8) (v := 0) (by decide) (Nat.le_of_eq (hst rfl).symm)]; exact h0
theorem rdS_end {l : List Nat} {at' : Nat} {st : Bool} (hb : ∀ x ∈ l, x < 256) (ha : at' ≤ l.length) (hst : st = true → at' = l.length) : (rdS l [(0, 18446744073709551615)] 8 at' st).2.2 = true → (rdS l [(0, 18446744073709551615)] 8 at' st).2.1 = l.length := by
  cases st with
  | false => rw [rdS_false]; exact fun h => long_end l 8 0 at' (by decide) (by decide) hb ha h
  | true => rw [rdS_true]; exact fun _ => hst rfl
theorem gens_one (a b c d : Int) : (#[Value.int .u64 a, .int .u64 b, .int .u64 c, .int .u64 d] : Array Value).all (·.oneCell') = true := by simp [Value.oneCell']
set_option maxHeartbeats 2000000 in
/-- four identifiers -/
theorem qgens_any (w : World) (rb b off cap at' : Nat) (l : List Nat) (p : PV) (h : QR w rb b off cap l at') (ha : at' ≤ l.length) (hl : 0 < l.length) :
    Calls Tryd.prog 29 #[.pointer (some ⟨rb, 0, none⟩)] w fun e' w' => ∃ q : PV, q = (fieldF l p at' false .ids).1 ∧ e' = .returned (.tuple #[.agg #[.int .u64 (q.g0 : Int), .int .u64 (q.g1 : Int), .int .u64 (q.g2 : Int), .int .u64 (q.g3 : Int)], .bool (!(fieldF l p at' false .ids).2.2)]) ∧ QR w' rb b off cap l (fieldF l p at' false .ids).2.1 ∧ Oth rb w w' := by
  obtain ⟨r0, hr0⟩ : ∃ r, r = rdS l [(0, 18446744073709551615)] 8 at' false := ⟨_, rfl⟩
  obtain ⟨r1, hr1⟩ : ∃ r, r = rdS l [(0, 18446744073709551615)] 8 r0.2.1 r0.2.2 := ⟨_, rfl⟩
  obtain ⟨r2, hr2⟩ : ∃ r, r = rdS l [(0, 18446744073709551615)] 8 r1.2.1 r1.2.2 := ⟨_, rfl⟩
  obtain ⟨r3, hr3⟩ : ∃ r, r = rdS l [(0, 18446744073709551615)] 8 r2.2.1 r2.2.2 := ⟨_, rfl⟩
  have HF : Hid (fieldF l p at' false .ids = ({ p with g0 := r0.1, g1 := r1.1, g2 := r2.1, g3 := r3.1 }, r3.2)) := hide (by rw [hr3, hr2, hr1, hr0]; rfl)
  have l0 : r0.2.1 ≤ l.length := by rw [hr0]; exact (rdS_le ha).2
  have s0 : r0.2.2 = true → r0.2.1 = l.length := by rw [hr0]; exact rdS_end h.hb ha (fun e => by cases e)
  have l1 : r1.2.1 ≤ l.length := by rw [hr1]; exact (rdS_le l0).2
  have s1 : r1.2.2 = true → r1.2.1 = l.length := by rw [hr1]; exact rdS_end h.hb l0 s0
  have l2 : r2.2.1 ≤ l.length := by rw [hr2]; exact (rdS_le l1).2
  have s2 : r2.2.2 = true → r2.2.1 = l.length := by rw [hr2]; exact rdS_end h.hb l1 s1
  have H0 := hide fun y (hy : QR y rb b off cap l at') => qlong_any y rb b off cap at' l false hy ha (fun e => by cases e)
  have H1 := hide fun y (hy : QR y rb b off cap l r0.2.1) => qlong_any y rb b off cap r0.2.1 l r0.2.2 hy l0 s0
  have H2 := hide fun y (hy : QR y rb b off cap l r1.2.1) => qlong_any y rb b off cap r1.2.1 l r1.2.2 hy l1 s1
  have H3 := hide fun y (hy : QR y rb b off cap l r2.2.1) => qlong_any y rb b off cap r2.2.1 l r2.2.2 hy l2 s2
  rw [← hr0] at H0
  rw [← hr1] at H1
  rw [← hr2] at H2
  rw [← hr3] at H3
  have hz := (Below.refl w.heap.size w).alloc (Nat.le_refl _) (.cells #[.int .u64 0, .int .u64 0, .int .u64 0, .int .u64 0] 27)
  have QA := hide (h.below hz)
  have OA := hide ((Oth.refl rb w).below hz)
  have hne : w.heap.size ≠ rb := by have := (Array.getElem?_eq_some_iff.1 h.row).1; omega
  have HBW : Hid (b < w.heap.size) := hide (by have := World.block_lt_of_cell? w _ (h.dat 0 hl); simpa using this)
  have RA := hide (Go.heap_alloc_new w (.cells #[.int .u64 0, .int .u64 0, .int .u64 0, .int .u64 0] 27))
  have SA : Hid (w.heap.size < (w.alloc (.cells #[.int .u64 0, .int .u64 0, .int .u64 0, .int .u64 0] 27)).heap.size) := hide (by simp)
  clear hr0 hr1 hr2 hr3 l0 l1 l2 s0 s1 s2 h hz
  obtain ⟨a0, b0, d0⟩ := r0
  obtain ⟨a1, b1, d1⟩ := r1
  obtain ⟨a2, b2, d2⟩ := r2
  obtain ⟨a3, b3, d3⟩ := r3
  simp only at *
  go_enter Tryd.func29, Tryd.ntmps29
  go_wp2_with (first
    | (go_at_call 35; refine (H0.out _ QA.out).mono ?_; rintro e' y0 ⟨rfl, hq, ho⟩; have Q0 := hide hq; have O0 := hide (OA.out.trans ho); have R0 := hide ((ho.block _ SA.out hne).trans RA.out); clear hq ho H0 QA OA RA)
    | (go_at_call 35; refine (H1.out _ Q0.out).mono ?_; rintro e' y1 ⟨rfl, hq, ho⟩; have Q1 := hide hq; have O1 := hide (O0.out.trans ho); have R1 := hide ((ho.block _ (Array.getElem?_eq_some_iff.1 R0.out).1 hne).trans R0.out); clear hq ho H1 Q0 O0 R0)
    | (go_at_call 35; refine (H2.out _ Q1.out).mono ?_; rintro e' y2 ⟨rfl, hq, ho⟩; have Q2 := hide hq; have O2 := hide (O1.out.trans ho); have R2 := hide ((ho.block _ (Array.getElem?_eq_some_iff.1 R1.out).1 hne).trans R1.out); clear hq ho H2 Q1 O1 R1)
    | (go_at_call 35; refine (H3.out _ Q2.out).mono ?_; rintro e' y3 ⟨rfl, hq, ho⟩; have Q3 := hide hq; have O3 := hide (O2.out.trans ho); have R3 := hide ((ho.block _ (Array.getElem?_eq_some_iff.1 R2.out).1 hne).trans R2.out); clear hq ho H3 Q2 O2 R2)
    | (refine wpList_store_row rfl 27 (.tmp 2) (.tmp 36) rfl w.heap.size #[.int .u64 (a0 : Int), .int .u64 (a1 : Int), .int .u64 (a2 : Int), .int .u64 (a3 : Int)] (by first | rfl | simp [Act.eval, Act.put]) (by first | rfl | simp [Act.eval, Act.put]) 27 #[.int .u64 0, .int .u64 0, .int .u64 0, .int .u64 0] R3.out (by kernel_rfl) rfl (gens_one _ _ _ _) ?_))
  have hbw := HBW.out
  have R4 : (y3.setRow w.heap.size #[.int .u64 (a0 : Int), .int .u64 (a1 : Int), .int .u64 (a2 : Int), .int .u64 (a3 : Int)]).heap[w.heap.size]? = some (.cells #[.int .u64 (a0 : Int), .int .u64 (a1 : Int), .int .u64 (a2 : Int), .int .u64 (a3 : Int)] 27 (0, 0)) := setRow_heap _ _ _ _ 27 _ R3.out
  refine bodyPost_ret (results_row_tmpQ (p := 2) (u := 3) rfl _ _ w.heap.size 27 _ (0, 0) _ rfl R4 Tryd.underlying27 rfl (by kernel_rfl)) rfl ⟨_, rfl, ?_, ?_, ?_⟩
  · rw [HF.out]; rfl
  · rw [HF.out]
    exact Q3.out.same (setRow_other _ _ _ _ (Ne.symm hne)) (setRow_other _ _ _ _ (by omega))
  · refine ⟨O3.out.os, O3.out.tape, O3.out.output, by simp [World.setRow]; exact O3.out.size, fun j h1 h2 => ?_⟩
    rw [setRow_other _ _ _ _ (by omega)]
    exact O3.out.block j h1 h2
end Go.Proofs.YtcjilmafdpnfeaaDoor
namespace Go.Proofs.YtcjilmafdpnfeaaDoor
open Go.RowKit
open Num
set_option linter.unusedVariables false
set_option linter.unusedSimpArgs false
set_option maxRecDepth 20000

theorem Oth.setNew {rb : Nat} {w x : World} (h : Oth rb w x) (g i : Nat) (v : Value) (hg : w.heap.size ≤ g) : Oth rb w (x.setCell ⟨g, i, none⟩ v) :=
  ⟨h.os, h.tape, h.output, by rw [World.size_setCell]; exact h.size, fun j h1 h2 => (Go.heap_setCell_other _ _ _ _ (by show j ≠ g; omega)).trans (h.block j h1 h2)⟩
theorem Oth.rowNew {rb : Nat} {w x : World} (h : Oth rb w x) (g : Nat) (cs : Array Value) (hg : w.heap.size ≤ g) : Oth rb w (x.setRow g cs) :=
  ⟨h.os, h.tape, h.output, by simp [World.setRow]; exact h.size, fun j h1 h2 => by rw [setRow_other _ _ _ _ (by omega)]; exact h.block j h1 h2⟩
theorem sumQ_stuck {l : List Nat} {L : List (Nat × Nat)} {s0 : List Nat} {at0 a : Nat} {st0 : Bool} {k : Nat} (h : (sumF l L s0 at0 st0 k).2 = (a, true)) : ∀ j, (sumF l L s0 at0 st0 (k + j)).2 = (a, true) := by
  intro j
  induction j with
  | zero => exact h
  | succ j ih =>
    show (rdS l L 1 (sumF l L s0 at0 st0 (k + j)).2.1 (sumF l L s0 at0 st0 (k + j)).2.2).2 = (a, true)
    rw [ih, rdS_true]
theorem rd1 {l : List Nat} {L : List (Nat × Nat)} {a : Nat} (h : a < l.length) : rdS l L 1 a false = if meets L (l.getD a 0) (l.getD a 0) then (l.getD a 0, a + 1, false) else (0, a, true) := by
  rw [rdS_false, rdN, if_neg (by omega)]
  simp [rdN]
theorem rd1_end {l : List Nat} {L : List (Nat × Nat)} {a : Nat} (h : l.length ≤ a) : rdS l L 1 a false = (0, a, true) := by rw [rdS_false, rdN_end (by decide) h]
theorem meets_255 {x : Nat} (h : x < 256) : meets [(0, 255)] x x = true := by simp only [meets, List.any_cons, List.any_nil, Bool.or_false, Bool.and_eq_true, decide_eq_true_eq]; omega
theorem meets_0 {x : Nat} (h : x ≠ 0) : meets [(0, 0)] x x = false := by simp only [meets, List.any_cons, List.any_nil, Bool.or_false, Bool.and_eq_false_iff, decide_eq_false_iff_not]; omega
theorem sum_step {l : List Nat} {L : List (Nat × Nat)} {s0 sk : List Nat} {at0 k x a : Nat} (h : sumF l L s0 at0 false k = (sk, at0 + k, false)) (hr : rdS l L 1 (at0 + k) false = (x, a, false)) : sumF l L s0 at0 false (k + 1) = (sk.set k x, a, false) := by
  show ((sumF l L s0 at0 false k).1.set k (rdS l L 1 (sumF l L s0 at0 false k).2.1 (sumF l L s0 at0 false k).2.2).1, (rdS l L 1 (sumF l L s0 at0 false k).2.1 (sumF l L s0 at0 false k).2.2).2) = _
  rw [h, hr]
theorem sum_stop {l : List Nat} {L : List (Nat × Nat)} {s0 sk : List Nat} {at0 k x a : Nat} (h : sumF l L s0 at0 false k = (sk, at0 + k, false)) (hr : rdS l L 1 (at0 + k) false = (x, a, true)) (hk : k < 32) : (sumF l L s0 at0 false 32).2 = (a, true) := by
  have h1 : (sumF l L s0 at0 false (k + 1)).2 = (a, true) := by
    show (rdS l L 1 (sumF l L s0 at0 false k).2.1 (sumF l L s0 at0 false k).2.2).2 = _
    rw [h, hr]
  have h2 := sumQ_stuck h1 (32 - (k + 1))
  rwa [show k + 1 + (32 - (k + 1)) = 32 by omega] at h2
theorem u8L_all (s : List Nat) : (u8L s).toArray.all (·.oneCell') = true := by
  rw [Array.all_eq_true_iff_forall_mem]
  intro x hx
  rw [List.mem_toArray] at hx
  obtain ⟨y, -, rfl⟩ := List.mem_map.1 hx
  rfl
theorem u8L_set (s : List Nat) (k x : Nat) : (u8L s).set k (.int .u8 (x : Int)) = u8L (s.set k x) := by unfold u8L; rw [List.map_set]
theorem u8L_set0 (s : List Nat) (k : Nat) : (u8L s).set k (.int .u8 0) = u8L (s.set k 0) := u8L_set s k 0
theorem infoU (s : List Nat) (h : s.length = 32) : (Tryd.prog.info? 28).map (·.size) = some (u8L s).toArray.size := by rw [List.size_toArray, u8L_len, h]; exact infoS
def SumP (w : World) (rb b off cap : Nat) (l : List Nat) (F : List Nat × Nat × Bool) (e : Ending) (y : World) : Prop :=
  ∃ cs : List Nat, cs.length = 32 ∧ (∀ x ∈ cs, x < 256) ∧ e = .returned (.tuple #[.agg (u8L cs).toArray, .bool (!F.2.2)]) ∧ (F.2.2 = false → cs = F.1) ∧ QR y rb b off cap l F.2.1 ∧ Oth rb w y
set_option maxHeartbeats 2000000 in
theorem qsum_f (w : World) (rb b off cap at' : Nat) (l : List Nat) (h : QR w rb b off cap l at') (ha : at' ≤ l.length) (hl : 0 < l.length) :
    Calls Tryd.prog 30 #[.pointer (some ⟨rb, 0, none⟩), .bool false] w (SumP w rb b off cap l (sumF l [(0, 255)] (List.replicate 32 0) at' false 32)) := by
  unfold SumP
  obtain ⟨Z, hZ⟩ : ∃ Z, Z = (u8L (List.replicate 32 0)).toArray := ⟨_, rfl⟩
  have HZ := hide hZ
  have HI := hide fun (s : List Nat) (h : s.length = 32) => infoU s h
  have hz := (Below.refl w.heap.size w).alloc (Nat.le_refl _) (.cells (u8L (List.replicate 32 0)).toArray 28)
  have hz2 := hz.alloc hz.size (.cells (u8L (List.replicate 32 0)).toArray 28)
  have QA := hide (h.below hz2)
  have OA := hide ((Oth.refl rb w).below hz2)
  have hrb := (Array.getElem?_eq_some_iff.1 h.row).1
  have hbw := World.block_lt_of_cell? w _ (h.dat 0 hl)
  simp only at hbw
  have R6 := hide (Go.heap_alloc_new (w.alloc (.cells (u8L (List.replicate 32 0)).toArray 28)) (.cells (u8L (List.replicate 32 0)).toArray 28))
  have R4 : Hid (((w.alloc (.cells (u8L (List.replicate 32 0)).toArray 28)).alloc (.cells (u8L (List.replicate 32 0)).toArray 28)).heap[w.heap.size]? = some (.cells (u8L (List.replicate 32 0)).toArray 28 (0, 0))) := hide (((Below.refl _ (w.alloc (.cells (u8L (List.replicate 32 0)).toArray 28))).alloc (Nat.le_refl _) (.cells (u8L (List.replicate 32 0)).toArray 28)).block _ (by simp) |>.trans (Go.heap_alloc_new w _))
  have s6 : (w.alloc (.cells (u8L (List.replicate 32 0)).toArray 28)).heap.size = w.heap.size + 1 := by simp
  rw [s6] at R6
  have hzz : (u8L (List.replicate 32 0)).toArray = (#[.int .u8 0, .int .u8 0, .int .u8 0, .int .u8 0, .int .u8 0, .int .u8 0, .int .u8 0, .int .u8 0, .int .u8 0, .int .u8 0, .int .u8 0, .int .u8 0, .int .u8 0, .int .u8 0, .int .u8 0, .int .u8 0, .int .u8 0, .int .u8 0, .int .u8 0, .int .u8 0, .int .u8 0, .int .u8 0, .int .u8 0, .int .u8 0, .int .u8 0, .int .u8 0, .int .u8 0, .int .u8 0, .int .u8 0, .int .u8 0, .int .u8 0, .int .u8 0] : Array Value) := rfl
  rw [hzz] at QA OA R6 R4
  have hcap := h.h2
  have hlc := h.h1
  unfold maxLen at hcap
  have HBY := hide h.hb
  clear h hz hz2 hZ HZ s6 hzz
  go_enter Tryd.func30, Tryd.ntmps30
  go_wp2_with fail
  generalize (w.alloc _).alloc _ = w2 at *
  go_loopw [7] (fun i wr => ∃ (k : Nat) (sk : List Nat), k ≤ 32 ∧ i = .int .i64 k ∧ sk.length = 32 ∧ (∀ x ∈ sk, x < 256) ∧ Hid (sumF l [(0, 255)] (List.replicate 32 0) at' false k = (sk, at' + k, false)) ∧ at' + k ≤ l.length ∧ wr.heap[w.heap.size + 1]? = some (.cells (u8L sk).toArray 28 (0, 0)) ∧ wr.heap[w.heap.size]? = some (.cells (u8L (List.replicate 32 0)).toArray 28 (0, 0)) ∧ QR wr rb b off cap l (at' + k) ∧ Oth rb w wr) (fun i _ => 32 - (intOf i).toNat)
  case atStart => exact ⟨0, List.replicate 32 0, Nat.zero_le _, rfl, rfl, by simp, hide rfl, ha, R6.out, R4.out, QA.out, OA.out⟩
  case round =>
    clear QA OA R6 R4
    obtain ⟨k, sk, hk, rfl, hsl, hsb, heq, hal, r6, r4, hq, ho⟩ := hrel
    have HQ := hide hq
    have HO := hide ho
    have R6 := hide r6
    have R4 := hide r4
    have HSL := hide hsl
    have HSB := hide hsb
    obtain ⟨c0, c1, f1⟩ := hq.cells
    by_cases hlt : k < 32
    · by_cases hend : at' + k = l.length
      · have HF := hide (sum_stop heq.out (rd1_end (by omega)) hlt)
        have b1 : l.length ≤ at' + k := by omega
        clear hq ho heq r6 r4 hsl hsb
        generalize at' + k = q at *
        go_wp2_with fail
        go_quiet (fail)
        go_wp2_with (first
          | (refine wpList_load_row rfl 28 (.tmp 6) rfl (w.heap.size + 1) (by first | rfl | simp [Act.eval, Act.put]) 28 (u8L sk).toArray (0, 0) _ R6.out Tryd.underlying28 rfl (HI.out sk HSL.out) ?_)
          | (refine wpList_store_row rfl 28 (.tmp 4) (.tmp 38) rfl w.heap.size (u8L sk).toArray (by first | rfl | simp [Act.eval, Act.put]) (by first | rfl | simp [Act.eval, Act.put]) 28 _ R4.out (HI.out sk HSL.out) (by rw [List.size_toArray, List.size_toArray, u8L_len, u8L_len, HSL.out]; rfl) (u8L_all sk) ?_))
        have r4 := setRow_heap _ w.heap.size _ (u8L sk).toArray 28 _ R4.out
        refine bodyPost_ret (results_row_tmpQ (p := 4) (u := 5) rfl _ _ w.heap.size 28 _ (0, 0) _ rfl r4 Tryd.underlying28 rfl (HI.out sk HSL.out)) rfl ⟨sk, HSL.out, HSB.out, ?_, fun hh => ?_, ?_, ?_⟩
        · rw [HF.out]; rfl
        · rw [HF.out] at hh; cases hh
        · rw [HF.out]; exact HQ.out.same (setRow_other _ _ _ _ (by omega)) (setRow_other _ _ _ _ (by omega))
        · exact (HO.out.drewN _).rowNew _ _ (Nat.le_refl _)
      · have hx : l.getD (at' + k) 0 < 256 := HBY.out _ (by simp [List.getD, show at' + k < l.length by omega])
        have cb := hq.dat (at' + k) (by omega)
        have hql : at' + k < l.length := by omega
        have b1 : ¬ l.length ≤ at' + k := by omega
        have HRD := hide (rd1 (l := l) (L := [(0, 255)]) hql)
        rw [if_pos (meets_255 hx)] at HRD
        have HF := hide (sum_step heq.out HRD.out)
        have cs := (cell_of_row wr (w.heap.size + 1) k _ _ _ R6.out).trans (show (u8L sk).toArray[k]? = some (.int .u8 ((sk.getD k 0 : Nat) : Int)) by rw [List.getElem?_toArray]; exact u8L_get (by omega))
        have fs := frozen_of_row wr (w.heap.size + 1) k _ _ R6.out
        clear HRD hq ho heq r6 r4 hsl hsb
        have HQ2 : Hid (at' + k + 1 = at' + (k + 1)) := hide (by omega)
        have HQL : Hid (at' + (k + 1) ≤ l.length) := hide (by omega)
        have HX := hide hx
        generalize l.getD (at' + k) 0 = x at *
        generalize at' + k = q at *
        go_wp2_with fail
        go_quiet (fail)
        go_wp2_with fail
        go_region_law (fail)
        all_goals
          (generalize hwx : World.setCell _ ⟨w.heap.size + 1, k, none⟩ _ = wx at *
           have k1 : ∀ j, j ≠ w.heap.size + 1 → wx.heap[j]? = wr.heap[j]? := fun j hj => by rw [← hwx]; exact Go.heap_setCell_other _ _ _ _ hj
           have K2 : Hid (wx.heap[w.heap.size + 1]? = some (.cells (u8L (sk.set k x)).toArray 28 (0, 0))) := hide (by
             rw [← hwx, Go.heap_setCell_same _ (w.heap.size + 1) k _ 28 _ (show (World.drewN wr _).heap[w.heap.size + 1]? = _ from R6.out), List.setIfInBounds_toArray]; first | rw [u8L_set] | rw [u8L_set0])
           have K4 := hide ((k1 w.heap.size (by omega)).trans R4.out)
           have HQ3 := hide (HQ.out.same (k1 rb (by omega)) (k1 b (by omega)))
           have HO3 : Hid (Oth rb w wx) := hide (by rw [← hwx]; exact (HO.out.drewN _).setNew _ _ _ (by omega))
           clear hwx k1 R6 R4 HQ HO cs fs c0 c1 f1
           obtain ⟨g0, g1, g2⟩ := HQ3.out.cells
           go_wp2_with fail
           go_roundw
           case rel =>
             refine ⟨k + 1, sk.set k x, by omega, by go_num, by rw [List.length_set]; exact HSL.out, fun y hy => ?_, ?_, HQL.out, ?_, ?_, ?_, HO3.out.set 1 _⟩
             · rcases List.mem_or_eq_of_mem_set hy with hy | rfl
               · exact HSB.out y hy
               · exact HX.out
             · rw [← HQ2.out]; exact HF
             · rw [Go.heap_setCell_other _ _ _ _ (by show w.heap.size + 1 ≠ rb; omega)]; exact K2.out
             · rw [Go.heap_setCell_other _ _ _ _ (by show w.heap.size ≠ rb; omega)]; exact K4.out
             · rw [← HQ2.out]; have := HQ3.out.go (q + 1); simpa using this
           case measure => simp [intOf]; omega)
    · obtain rfl : k = 32 := by omega
      have HF := hide heq.out
      clear hq ho heq r6 r4 hsl hsb
      go_wp2_with (first
        | (refine wpList_load_row rfl 28 (.tmp 6) rfl (w.heap.size + 1) (by first | rfl | simp [Act.eval, Act.put]) 28 (u8L sk).toArray (0, 0) _ R6.out Tryd.underlying28 rfl (HI.out sk HSL.out) ?_)
        | (refine wpList_store_row rfl 28 (.tmp 4) (.tmp 58) rfl w.heap.size (u8L sk).toArray (by first | rfl | simp [Act.eval, Act.put]) (by first | rfl | simp [Act.eval, Act.put]) 28 _ R4.out (HI.out sk HSL.out) (by rw [List.size_toArray, List.size_toArray, u8L_len, u8L_len, HSL.out]; rfl) (u8L_all sk) ?_))
      have r4 := setRow_heap _ w.heap.size _ (u8L sk).toArray 28 _ R4.out
      refine bodyPost_ret (results_row_tmpQ (p := 4) (u := 5) rfl _ _ w.heap.size 28 _ (0, 0) _ rfl r4 Tryd.underlying28 rfl (HI.out sk HSL.out)) rfl ⟨sk, HSL.out, HSB.out, ?_, fun _ => ?_, ?_, ?_⟩
      · rw [HF.out]; rfl
      · rw [HF.out]
      · rw [HF.out]; exact HQ.out.same (setRow_other _ _ _ _ (by omega)) (setRow_other _ _ _ _ (by omega))
      · exact HO.out.rowNew _ _ (Nat.le_refl _)
set_option maxHeartbeats 2000000 in
theorem qsum_t (w : World) (rb b off cap at' : Nat) (l : List Nat) (h : QR w rb b off cap l at') (ha : at' ≤ l.length) (hl : 0 < l.length) :
    Calls Tryd.prog 30 #[.pointer (some ⟨rb, 0, none⟩), .bool true] w (SumP w rb b off cap l (sumF l [(0, 0)] (List.replicate 32 0) at' false 32)) := by
  unfold SumP
  obtain ⟨Z, hZ⟩ : ∃ Z, Z = (u8L (List.replicate 32 0)).toArray := ⟨_, rfl⟩
  have HZ := hide hZ
  have HI := hide fun (s : List Nat) (h : s.length = 32) => infoU s h
  have hz := (Below.refl w.heap.size w).alloc (Nat.le_refl _) (.cells (u8L (List.replicate 32 0)).toArray 28)
  have hz2 := hz.alloc hz.size (.cells (u8L (List.replicate 32 0)).toArray 28)
  have QA := hide (h.below hz2)
  have OA := hide ((Oth.refl rb w).below hz2)
  have hrb := (Array.getElem?_eq_some_iff.1 h.row).1
  have hbw := World.block_lt_of_cell? w _ (h.dat 0 hl)
  simp only at hbw
  have R6 := hide (Go.heap_alloc_new (w.alloc (.cells (u8L (List.replicate 32 0)).toArray 28)) (.cells (u8L (List.replicate 32 0)).toArray 28))
  have R4 : Hid (((w.alloc (.cells (u8L (List.replicate 32 0)).toArray 28)).alloc (.cells (u8L (List.replicate 32 0)).toArray 28)).heap[w.heap.size]? = some (.cells (u8L (List.replicate 32 0)).toArray 28 (0, 0))) := hide (((Below.refl _ (w.alloc (.cells (u8L (List.replicate 32 0)).toArray 28))).alloc (Nat.le_refl _) (.cells (u8L (List.replicate 32 0)).toArray 28)).block _ (by simp) |>.trans (Go.heap_alloc_new w _))
  have s6 : (w.alloc (.cells (u8L (List.replicate 32 0)).toArray 28)).heap.size = w.heap.size + 1 := by simp
  rw [s6] at R6
  have hzz : (u8L (List.replicate 32 0)).toArray = (#[.int .u8 0, .int .u8 0, .int .u8 0, .int .u8 0, .int .u8 0, .int .u8 0, .int .u8 0, .int .u8 0, .int .u8 0, .int .u8 0, .int .u8 0, .int .u8 0, .int .u8 0, .int .u8 0, .int .u8 0, .int .u8 0, .int .u8 0, .int .u8 0, .int .u8 0, .int .u8 0, .int .u8 0, .int .u8 0, .int .u8 0, .int .u8 0, .int .u8 0, .int .u8 0, .int .u8 0, .int .u8 0, .int .u8 0, .int .u8 0, .int .u8 0, .int .u8 0] : Array Value) := rfl
  rw [hzz] at QA OA R6 R4
  have hcap := h.h2
  have hlc := h.h1
  unfold maxLen at hcap
  have HBY := hide h.hb
  clear h hz hz2 hZ HZ s6 hzz
  go_enter Tryd.func30, Tryd.ntmps30
  go_wp2_with fail
  generalize (w.alloc _).alloc _ = w2 at *
  go_loopw [7] (fun i wr => ∃ (k : Nat) (sk : List Nat), k ≤ 32 ∧ i = .int .i64 k ∧ sk.length = 32 ∧ (∀ x ∈ sk, x < 256) ∧ Hid (sumF l [(0, 0)] (List.replicate 32 0) at' false k = (sk, at' + k, false)) ∧ at' + k ≤ l.length ∧ wr.heap[w.heap.size + 1]? = some (.cells (u8L sk).toArray 28 (0, 0)) ∧ wr.heap[w.heap.size]? = some (.cells (u8L (List.replicate 32 0)).toArray 28 (0, 0)) ∧ QR wr rb b off cap l (at' + k) ∧ Oth rb w wr) (fun i _ => 32 - (intOf i).toNat)
  case atStart => exact ⟨0, List.replicate 32 0, Nat.zero_le _, rfl, rfl, by simp, hide rfl, ha, R6.out, R4.out, QA.out, OA.out⟩
  case round =>
    clear QA OA R6 R4
    obtain ⟨k, sk, hk, rfl, hsl, hsb, heq, hal, r6, r4, hq, ho⟩ := hrel
    have HQ := hide hq
    have HO := hide ho
    have R6 := hide r6
    have R4 := hide r4
    have HSL := hide hsl
    have HSB := hide hsb
    obtain ⟨c0, c1, f1⟩ := hq.cells
    by_cases hlt : k < 32
    · by_cases hend : at' + k = l.length
      · have HF := hide (sum_stop heq.out (rd1_end (by omega)) hlt)
        have b1 : l.length ≤ at' + k := by omega
        clear hq ho heq r6 r4 hsl hsb
        generalize at' + k = q at *
        go_wp2_with fail
        go_quiet (fail)
        go_wp2_with (first
          | (refine wpList_load_row rfl 28 (.tmp 6) rfl (w.heap.size + 1) (by first | rfl | simp [Act.eval, Act.put]) 28 (u8L sk).toArray (0, 0) _ R6.out Tryd.underlying28 rfl (HI.out sk HSL.out) ?_)
          | (refine wpList_store_row rfl 28 (.tmp 4) (.tmp 38) rfl w.heap.size (u8L sk).toArray (by first | rfl | simp [Act.eval, Act.put]) (by first | rfl | simp [Act.eval, Act.put]) 28 _ R4.out (HI.out sk HSL.out) (by rw [List.size_toArray, List.size_toArray, u8L_len, u8L_len, HSL.out]; rfl) (u8L_all sk) ?_))
        have r4 := setRow_heap _ w.heap.size _ (u8L sk).toArray 28 _ R4.out
        refine bodyPost_ret (results_row_tmpQ (p := 4) (u := 5) rfl _ _ w.heap.size 28 _ (0, 0) _ rfl r4 Tryd.underlying28 rfl (HI.out sk HSL.out)) rfl ⟨sk, HSL.out, HSB.out, ?_, fun hh => ?_, ?_, ?_⟩
        · rw [HF.out]; rfl
        · rw [HF.out] at hh; cases hh
        · rw [HF.out]; exact HQ.out.same (setRow_other _ _ _ _ (by omega)) (setRow_other _ _ _ _ (by omega))
        · exact (HO.out.drewN _).rowNew _ _ (Nat.le_refl _)
      · have hx : l.getD (at' + k) 0 < 256 := HBY.out _ (by simp [List.getD, show at' + k < l.length by omega])
        have cb := hq.dat (at' + k) (by omega)
        have hql : at' + k < l.length := by omega
        have b1 : ¬ l.length ≤ at' + k := by omega
        have HRD := hide (rd1 (l := l) (L := [(0, 0)]) hql)
        by_cases hx0 : l.getD (at' + k) 0 = 0
        · rw [if_pos (by rw [hx0]; rfl)] at HRD
          have HF := hide (sum_step heq.out HRD.out)
          have cs := (cell_of_row wr (w.heap.size + 1) k _ _ _ R6.out).trans (show (u8L sk).toArray[k]? = some (.int .u8 ((sk.getD k 0 : Nat) : Int)) by rw [List.getElem?_toArray]; exact u8L_get (by omega))
          have fs := frozen_of_row wr (w.heap.size + 1) k _ _ R6.out
          clear HRD hq ho heq r6 r4 hsl hsb
          have HQ2 : Hid (at' + k + 1 = at' + (k + 1)) := hide (by omega)
          have HQL : Hid (at' + (k + 1) ≤ l.length) := hide (by omega)
          have HX := hide hx
          generalize l.getD (at' + k) 0 = x at *
          generalize at' + k = q at *
          obtain rfl : x = 0 := hx0
          go_wp2_with fail
          go_quiet (fail)
          go_wp2_with fail
          go_region_law (fail)
          all_goals
            (generalize hwx : World.setCell _ ⟨w.heap.size + 1, k, none⟩ _ = wx at *
             have k1 : ∀ j, j ≠ w.heap.size + 1 → wx.heap[j]? = wr.heap[j]? := fun j hj => by rw [← hwx]; exact Go.heap_setCell_other _ _ _ _ hj
             have K2 : Hid (wx.heap[w.heap.size + 1]? = some (.cells (u8L (sk.set k 0)).toArray 28 (0, 0))) := hide (by
               rw [← hwx, Go.heap_setCell_same _ (w.heap.size + 1) k _ 28 _ (show (World.drewN wr _).heap[w.heap.size + 1]? = _ from R6.out), List.setIfInBounds_toArray]; first | rw [u8L_set] | rw [u8L_set0])
             have K4 := hide ((k1 w.heap.size (by omega)).trans R4.out)
             have HQ3 := hide (HQ.out.same (k1 rb (by omega)) (k1 b (by omega)))
             have HO3 : Hid (Oth rb w wx) := hide (by rw [← hwx]; exact (HO.out.drewN _).setNew _ _ _ (by omega))
             clear hwx k1 R6 R4 HQ HO cs fs c0 c1 f1
             obtain ⟨g0, g1, g2⟩ := HQ3.out.cells
             go_wp2_with fail
             go_roundw
             case rel =>
               refine ⟨k + 1, sk.set k 0, by omega, by go_num, by rw [List.length_set]; exact HSL.out, fun y hy => ?_, ?_, HQL.out, ?_, ?_, ?_, HO3.out.set 1 _⟩
               · rcases List.mem_or_eq_of_mem_set hy with hy | rfl
                 · exact HSB.out y hy
                 · exact HX.out
               · rw [← HQ2.out]; exact HF
               · rw [Go.heap_setCell_other _ _ _ _ (by show w.heap.size + 1 ≠ rb; omega)]; exact K2.out
               · rw [Go.heap_setCell_other _ _ _ _ (by show w.heap.size ≠ rb; omega)]; exact K4.out
               · rw [← HQ2.out]; have := HQ3.out.go (q + 1); simpa using this
             case measure => simp [intOf]; omega)
        · rw [if_neg (by rw [meets_0 hx0]; decide)] at HRD
          have HF := hide (sum_stop heq.out HRD.out hlt)
          have b2 : ¬ ((l.getD (at' + k) 0 : Nat) : Int) = 0 := by omega
          clear HRD hq ho heq r6 r4 hsl hsb
          generalize l.getD (at' + k) 0 = x at *
          generalize at' + k = q at *
          go_wp2_with fail
          go_quiet (fail)
          go_wp2_with (first
            | (refine wpList_load_row rfl 28 (.tmp 6) rfl (w.heap.size + 1) (by first | rfl | simp [Act.eval, Act.put]) 28 (u8L sk).toArray (0, 0) _ R6.out Tryd.underlying28 rfl (HI.out sk HSL.out) ?_)
            | (refine wpList_store_row rfl 28 (.tmp 4) (.tmp 38) rfl w.heap.size (u8L sk).toArray (by first | rfl | simp [Act.eval, Act.put]) (by first | rfl | simp [Act.eval, Act.put]) 28 _ R4.out (HI.out sk HSL.out) (by rw [List.size_toArray, List.size_toArray, u8L_len, u8L_len, HSL.out]; rfl) (u8L_all sk) ?_))
          have r4 := setRow_heap _ w.heap.size _ (u8L sk).toArray 28 _ R4.out
          refine bodyPost_ret (results_row_tmpQ (p := 4) (u := 5) rfl _ _ w.heap.size 28 _ (0, 0) _ rfl r4 Tryd.underlying28 rfl (HI.out sk HSL.out)) rfl ⟨sk, HSL.out, HSB.out, ?_, fun hh => ?_, ?_, ?_⟩
          · rw [HF.out]; rfl
          · rw [HF.out] at hh; cases hh
          · rw [HF.out]; exact HQ.out.same (setRow_other _ _ _ _ (by omega)) (setRow_other _ _ _ _ (by omega))
          · exact (HO.out.drewN _).rowNew _ _ (Nat.le_refl _)
    · obtain rfl : k = 32 := by omega
      have HF := hide heq.out
      clear hq ho heq r6 r4 hsl hsb
      go_wp2_with (first
        | (refine wpList_load_row rfl 28 (.tmp 6) rfl (w.heap.size + 1) (by first | rfl | simp [Act.eval, Act.put]) 28 (u8L sk).toArray (0, 0) _ R6.out Tryd.underlying28 rfl (HI.out sk HSL.out) ?_)
        | (refine wpList_store_row rfl 28 (.tmp 4) (.tmp 58) rfl w.heap.size (u8L sk).toArray (by first | rfl | simp [Act.eval, Act.put]) (by first | rfl | simp [Act.eval, Act.put]) 28 _ R4.out (HI.out sk HSL.out) (by rw [List.size_toArray, List.size_toArray, u8L_len, u8L_len, HSL.out]; rfl) (u8L_all sk) ?_))
      have r4 := setRow_heap _ w.heap.size _ (u8L sk).toArray 28 _ R4.out
      refine bodyPost_ret (results_row_tmpQ (p := 4) (u := 5) rfl _ _ w.heap.size 28 _ (0, 0) _ rfl r4 Tryd.underlying28 rfl (HI.out sk HSL.out)) rfl ⟨sk, HSL.out, HSB.out, ?_, fun _ => ?_, ?_, ?_⟩
      · rw [HF.out]; rfl
      · rw [HF.out]
      · rw [HF.out]; exact HQ.out.same (setRow_other _ _ _ _ (by omega)) (setRow_other _ _ _ _ (by omega))
      · exact HO.out.rowNew _ _ (Nat.le_refl _)
end Go.Proofs.YtcjilmafdpnfeaaDoor
namespace Go.Proofs.YtcjilmafdpnfeaaDoor
open Go.RowKit
set_option linter.unusedVariables false
set_option linter.unusedSimpArgs false

/-! What a reader says of bytes hangs on those that it has seen: towards Prefix and Place. -/
/-- both begin with the same n bytes -/
def Ag (l m : List Nat) (n : Nat) : Prop := n ≤ l.length ∧ n ≤ m.length ∧ ∀ i, i < n → m.getD i 0 = l.getD i 0
/-- it has looked at no byte from n on -/
def In (n : Nat) (s : Nat × Bool) : Prop := s.1 < n ∨ (s.1 = n ∧ s.2 = false)
structure Good {β : Type} (F : List Nat → Nat → Bool → β × Nat × Bool) : Prop where
  same : ∀ l m n at' st, Ag l m n → at' ≤ n → In n (F l at' st).2 → F m at' st = F l at' st
  cut : ∀ l m n at' st, Ag l m n → m.length = n → at' ≤ n → ¬ In n (F l at' st).2 → (F m at' st).2 = (n, true)
  mono : ∀ l n at' st, at' ≤ l.length → ¬ In n (at', st) → ¬ In n (F l at' st).2
  stuck : ∀ l at', (F l at' true).2 = (at', true)
  le : ∀ l at' st, at' ≤ l.length → (F l at' st).2.1 ≤ l.length
theorem In.le {n : Nat} {s : Nat × Bool} (h : In n s) : s.1 ≤ n := by rcases h with h | h <;> omega
theorem Good.bind {α β : Type} {F : List Nat → Nat → Bool → α × Nat × Bool} {G : α → List Nat → Nat → Bool → β × Nat × Bool} (hF : Good F) (hG : ∀ a, Good (G a)) : Good fun l at' st => G (F l at' st).1 l (F l at' st).2.1 (F l at' st).2.2 where
  same l m n at' st hA hat h := by
    have h1 : In n (F l at' st).2 := Classical.byContradiction fun e => (hG _).mono l n _ _ (hF.le l at' st (Nat.le_trans hat hA.1)) e h
    have e := hF.same l m n at' st hA hat h1
    show G (F m at' st).1 m (F m at' st).2.1 (F m at' st).2.2 = _
    rw [e]
    exact (hG _).same l m n _ _ hA h1.le h
  cut l m n at' st hA hm hat h := by
    show (G (F m at' st).1 m (F m at' st).2.1 (F m at' st).2.2).2 = _
    by_cases h1 : In n (F l at' st).2
    · rw [hF.same l m n at' st hA hat h1]
      exact (hG _).cut l m n _ _ hA hm h1.le h
    · rw [hF.cut l m n at' st hA hm hat h1]
      exact (hG _).stuck m n
  mono l n at' st hat h := (hG _).mono l n _ _ (hF.le l at' st hat) (hF.mono l n at' st hat h)
  stuck l at' := by
    show (G (F l at' true).1 l (F l at' true).2.1 (F l at' true).2.2).2 = _
    rw [hF.stuck l at']
    exact (hG _).stuck l at'
  le l at' st hat := (hG _).le l _ _ (hF.le l at' st hat)
theorem Good.map {α β : Type} {F : List Nat → Nat → Bool → α × Nat × Bool} (hF : Good F) (g : α → β) : Good fun l at' st => (g (F l at' st).1, (F l at' st).2) where
  same l m n at' st hA hat h := by
    show (g (F m at' st).1, (F m at' st).2) = _
    rw [hF.same l m n at' st hA hat h]
  cut l m n at' st hA hm hat h := hF.cut l m n at' st hA hm hat h
  mono l n at' st hat h := hF.mono l n at' st hat h
  stuck l at' := hF.stuck l at'
  le l at' st hat := hF.le l at' st hat
theorem Good.pure {α : Type} (a : α) : Good fun _ at' st => (a, at', st) where
  same l m n at' st hA hat h := rfl
  cut l m n at' st hA hm hat h := by
    by_cases e : at' < n
    · exact absurd (.inl e) h
    · have hn : at' = n := by omega
      cases st with
      | false => exact absurd (.inr ⟨hn, rfl⟩) h
      | true => show (at', true) = (n, true); rw [hn]
  mono l n at' st hat h := h
  stuck l at' := rfl
  le l at' st hat := hat

theorem rdN_bd (l : List Nat) (L : List (Nat × Nat)) : ∀ k v at', at' ≤ (rdN l L k v at').2.1 ∧ (at' ≤ l.length → (rdN l L k v at').2.1 ≤ l.length)
  | 0, v, at' => ⟨Nat.le_refl _, id⟩
  | k + 1, v, at' => by
    rw [rdN]
    split
    · exact ⟨Nat.le_refl _, id⟩
    · split
      · have := rdN_bd l L k (v * 256 + l.getD at' 0) (at' + 1)
        exact ⟨by omega, fun h => this.2 (by omega)⟩
      · exact ⟨Nat.le_refl _, id⟩
theorem rdN_same {l m : List Nat} {n : Nat} (hA : Ag l m n) (L : List (Nat × Nat)) : ∀ k v at', at' ≤ n → In n (rdN l L k v at').2 → rdN m L k v at' = rdN l L k v at'
  | 0, v, at', _, _ => rfl
  | k + 1, v, at', hat, h => by
    obtain ⟨hl, hm, he⟩ := id hA
    by_cases e : at' < n
    · rw [rdN, rdN, he at' e, if_neg (show ¬ m.length ≤ at' by omega), if_neg (show ¬ l.length ≤ at' by omega)]
      rw [rdN, if_neg (show ¬ l.length ≤ at' by omega)] at h
      split
      · rename_i hq
        rw [if_pos hq] at h
        exact rdN_same hA L k _ _ (by omega) h
      · rfl
    · exfalso
      have hn : at' = n := by omega
      rw [rdN] at h
      split at h
      · rcases h with h | h
        · exact absurd h (by show ¬ at' < n; omega)
        · cases h.2
      · split at h
        · have := (rdN_bd l L k (v * 256 + l.getD at' 0) (at' + 1)).1
          have := h.le
          omega
        · rcases h with h | h
          · exact absurd h (by show ¬ at' < n; omega)
          · cases h.2
theorem rdN_cut {l m : List Nat} {n : Nat} (hA : Ag l m n) (hmn : m.length = n) (L : List (Nat × Nat)) : ∀ k v at', at' ≤ n → ¬ In n (rdN l L k v at').2 → (rdN m L k v at').2 = (n, true)
  | 0, v, at', hat, h => by
    exfalso
    by_cases e : at' < n
    · exact h (.inl e)
    · exact h (.inr ⟨by show at' = n; omega, rfl⟩)
  | k + 1, v, at', hat, h => by
    obtain ⟨hl, hm, he⟩ := id hA
    by_cases e : at' < n
    · rw [rdN, he at' e, if_neg (show ¬ m.length ≤ at' by omega)]
      rw [rdN, if_neg (show ¬ l.length ≤ at' by omega)] at h
      split
      · rename_i hq
        rw [if_pos hq] at h
        exact rdN_cut hA hmn L k _ _ (by omega) h
      · rename_i hq
        rw [if_neg hq] at h
        exact absurd (.inl e) h
    · rw [rdN, if_pos (by omega)]
      show (at', true) = (n, true)
      rw [show at' = n by omega]
theorem rdS_good (L : List (Nat × Nat)) (k : Nat) : Good fun l at' st => rdS l L (k + 1) at' st where
  same l m n at' st hA hat h := by
    cases st with
    | true => rfl
    | false => exact rdN_same hA L _ _ _ hat h
  cut l m n at' st hA hm hat h := by
    cases st with
    | true =>
      show (at', true) = (n, true)
      by_cases e : at' < n
      · exact absurd (.inl e) h
      · rw [show at' = n by omega]
    | false => exact rdN_cut hA hm L _ _ _ hat h
  mono l n at' st hat h := by
    cases st with
    | true => exact h
    | false =>
      intro h2
      have hgt : n < at' := Nat.lt_of_not_le fun e => h (by
        by_cases e2 : at' < n
        · exact .inl e2
        · exact .inr ⟨by show at' = n; omega, rfl⟩)
      have h3 := (rdN_bd l L (k + 1) 0 at').1
      have h4 : (rdN l L (k + 1) 0 at').2.1 ≤ n := h2.le
      omega
  stuck l at' := rfl
  le l at' st hat := by
    cases st with
    | true => exact hat
    | false => exact (rdN_bd l L (k + 1) 0 at').2 hat
theorem sg_ag {l m : List Nat} {n i c : Nat} (hA : Ag l m n) (h : i + c ≤ n) : sg m i c = sg l i c := by
  obtain ⟨hl, hm, he⟩ := hA
  unfold sg
  refine List.ext_getElem (by simp; omega) fun j h1 h2 => ?_
  simp at h1 h2
  have := he (i + j) (by omega)
  have a1 : i + j < m.length := by omega
  have a2 : i + j < l.length := by omega
  simp only [List.getD_eq_getElem?_getD, List.getElem?_eq_getElem a1, List.getElem?_eq_getElem a2, Option.getD_some] at this
  simpa using this
theorem tkR_good (c : Nat) : Good fun l at' st => tkR l at' st c where
  same l m n at' st hA hat h := by
    obtain ⟨hl, hm, he⟩ := id hA
    simp only [tkR] at h ⊢
    split
    · rfl
    · rename_i hs
      rw [if_neg hs] at h
      split at h
      · rename_i h1
        rcases h with h | h
        · exact absurd h (by show ¬ l.length < n; omega)
        · cases h.2
      · rename_i h1
        have : at' + c ≤ n := h.le
        rw [if_neg (by omega), if_neg h1, sg_ag hA this]
  cut l m n at' st hA hmn hat h := by
    obtain ⟨hl, hm, he⟩ := id hA
    simp only [tkR] at h ⊢
    split
    · rename_i hs
      rw [if_pos hs] at h
      exact (Good.pure ([] : List Nat)).cut l m n at' st hA hmn hat h
    · rename_i hs
      rw [if_neg hs] at h
      by_cases e : m.length - at' < c
      · rw [if_pos e, hmn]
      · rw [if_neg (by omega)] at h
        exfalso
        by_cases e2 : at' + c < n
        · exact h (.inl e2)
        · exact h (.inr ⟨by show at' + c = n; omega, rfl⟩)
  mono l n at' st hat h := by
    simp only [tkR]
    split
    · exact h
    · rename_i hs
      have hst : st = false := by cases st <;> simp_all
      subst hst
      have hgt : n < at' := Nat.lt_of_not_le fun e => h (by
        by_cases e2 : at' < n
        · exact .inl e2
        · exact .inr ⟨by show at' = n; omega, rfl⟩)
      split
      · intro h2
        have : l.length ≤ n := h2.le
        omega
      · intro h2
        have : at' + c ≤ n := h2.le
        omega
  stuck l at' := by simp [tkR]
  le l at' st hat := by
    simp only [tkR]
    split
    · exact hat
    · split
      · exact Nat.le_refl _
      · show at' + c ≤ l.length; omega
theorem sumF_good (L : List (Nat × Nat)) (s0 : List Nat) : ∀ k, Good fun l at' st => sumF l L s0 at' st k
  | 0 => Good.pure s0
  | k + 1 => (sumF_good L s0 k).bind (G := fun a l at' st => (a.set k (rdS l L 1 at' st).1, (rdS l L 1 at' st).2)) fun a => (rdS_good L 0).map fun x => a.set k x
theorem fieldF_good (p : PV) (f : Fd) : Good fun l at' st => fieldF l p at' st f := by
  cases f with
  | num n => exact (rdS_good (mayL n p.a p.b) 3).map fun x => p.set (bnd n).1 x
  | ids =>
    have R := rdS_good [(0, 18446744073709551615)] 7
    exact R.bind (G := fun a l at' st =>
      let r1 := rdS l [(0, 18446744073709551615)] 8 at' st
      let r2 := rdS l [(0, 18446744073709551615)] 8 r1.2.1 r1.2.2
      let r3 := rdS l [(0, 18446744073709551615)] 8 r2.2.1 r2.2.2
      ({ p with g0 := a, g1 := r1.1, g2 := r2.1, g3 := r3.1 }, r3.2)) fun a =>
        R.bind (G := fun b l at' st =>
          let r2 := rdS l [(0, 18446744073709551615)] 8 at' st
          let r3 := rdS l [(0, 18446744073709551615)] 8 r2.2.1 r2.2.2
          ({ p with g0 := a, g1 := b, g2 := r2.1, g3 := r3.1 }, r3.2)) fun b =>
            R.bind (G := fun c l at' st =>
              let r3 := rdS l [(0, 18446744073709551615)] 8 at' st
              ({ p with g0 := a, g1 := b, g2 := c, g3 := r3.1 }, r3.2)) fun c => R.map fun d => { p with g0 := a, g1 := b, g2 := c, g3 := d }
  | sum t => exact (sumF_good (smayL t p.e) p.s 32).map fun x => { p with s := x }
  | dat lo hi t =>
    exact (rdS_good (dmayL lo hi t p.e) 1).bind (G := fun a l at' st => ({ p with dl := (tkR l at' st a).1 }, (tkR l at' st a).2)) fun a => (tkR_good a).map fun x => { p with dl := x }
theorem fold_good (fs : List Fd) : ∀ p, Good fun l at' st => fs.foldl (fun s f => fieldF l s.1 s.2.1 s.2.2 f) ((p, at', st) : PV × Nat × Bool) := by
  induction fs with
  | nil => exact fun p => Good.pure p
  | cons f fs ih => exact fun p => (fieldF_good p f).bind (G := fun q l at' st => fs.foldl (fun s f => fieldF l s.1 s.2.1 s.2.2 f) ((q, at', st) : PV × Nat × Bool)) ih
/-- a whole packet, its command ahead -/
def dFrom (l : List Nat) (at' : Nat) (st : Bool) : (Nat × PV) × Nat × Bool :=
  (((rdS l [(1, 25)] 1 at' st).1, (decS l (fdL (rdS l [(1, 25)] 1 at' st).1) (fdL (rdS l [(1, 25)] 1 at' st).1).length PV.zero (rdS l [(1, 25)] 1 at' st).2.1 (rdS l [(1, 25)] 1 at' st).2.2).1), (decS l (fdL (rdS l [(1, 25)] 1 at' st).1) (fdL (rdS l [(1, 25)] 1 at' st).1).length PV.zero (rdS l [(1, 25)] 1 at' st).2.1 (rdS l [(1, 25)] 1 at' st).2.2).2)
theorem dFrom_good : Good dFrom := by
  refine (rdS_good [(1, 25)] 0).bind (G := fun c l at' st => ((c, (decS l (fdL c) (fdL c).length PV.zero at' st).1), (decS l (fdL c) (fdL c).length PV.zero at' st).2)) fun c => ?_
  refine Good.map (F := fun l at' st => decS l (fdL c) (fdL c).length PV.zero at' st) ?_ fun q => (c, q)
  simp only [decS, List.take_length]
  exact fold_good (fdL c) PV.zero
theorem dFrom_eq (l : List Nat) : dFrom l 0 false = ((dCmd l, (dAll l).1), (dAll l).2) := rfl
/-- THE USE: bytes that begin as l does as far as its packet was read are read alike -/
theorem dAll_same {l m : List Nat} {n : Nat} (hA : Ag l m n) (h : In n (dAll l).2) : dCmd m = dCmd l ∧ dAll m = dAll l := by
  have := dFrom_good.same l m n 0 false hA (Nat.zero_le _) h
  rw [dFrom_eq, dFrom_eq] at this
  simp only [Prod.mk.injEq] at this
  exact ⟨this.1.1, Prod.ext this.1.2 this.2⟩
/-- and bytes that end ahead of that are too short -/
theorem dAll_cut {l m : List Nat} {n : Nat} (hA : Ag l m n) (hm : m.length = n) (h : ¬ In n (dAll l).2) : (dAll m).2 = (n, true) :=
  dFrom_good.cut l m n 0 false hA hm (Nat.zero_le _) h
theorem dAll_le (l : List Nat) : (dAll l).2.1 ≤ l.length := dFrom_good.le l 0 false (Nat.zero_le _)
end Go.Proofs.YtcjilmafdpnfeaaDoor
namespace Go.Proofs.YtcjilmafdpnfeaaDoor
open Go.RowKit
set_option linter.unusedVariables false
set_option linter.unusedSimpArgs false

/-! The place: what Place and Prefix say, as numbers. -/
theorem dAt_ne {l : List Nat} (h : dErr l ≠ 0) : dAt l = (dAll l).2.1 := by unfold dAt; rw [if_neg h]
theorem dAt_zero {l : List Nat} (h : dErr l = 0) : dAt l = 0 := by unfold dAt; rw [if_pos h]
theorem ag_take {l : List Nat} {n : Nat} (h : n ≤ l.length) : Ag l (l.take n) n := ⟨h, by simp; omega, fun i hi => by simp [List.getD_eq_getElem?_getD, List.getElem?_take, hi]⟩
theorem ag_more {l : List Nat} {n : Nat} (h : n ≤ l.length) (t : List Nat) : Ag l (l.take n ++ t) n := ⟨h, by simp; omega, fun i hi => by
  rw [List.getD_eq_getElem?_getD, List.getD_eq_getElem?_getD, List.getElem?_append_left (by simp; omega), List.getElem?_take_of_lt hi]⟩
theorem dErr_cases (l : List Nat) : (dErr l = 0 ∧ (dAll l).2 = (l.length, false)) ∨ (dErr l = 71 ∧ (dAll l).2 = (l.length, true)) ∨ (dErr l = 76 ∧ (dAll l).2.1 < l.length ∧ (dAll l).2.2 = false) ∨ (dErr l = 74 ∧ (dAll l).2.1 < l.length ∧ (dAll l).2.2 = true ∧ (dAll l).2.1 = 0) ∨ (dErr l = 75 ∧ (dAll l).2.1 < l.length ∧ (dAll l).2.2 = true ∧ (dAll l).2.1 ≠ 0) := by
  have hle := dAll_le l
  unfold dErr why
  rcases hd : (dAll l).2 with ⟨a, s⟩
  rw [hd] at hle
  simp only at hle ⊢
  cases s with
  | true =>
    by_cases h1 : a = l.length
    · right; left; simp [h1]
    · by_cases h2 : a = 0
      · right; right; right; left; subst h2; simp [h1]; omega
      · right; right; right; right; simp [h1, h2]; omega
  | false =>
    by_cases h1 : a < l.length
    · right; right; left; simp [h1]
    · left; have : a = l.length := by omega
      simp [this]
theorem place_71 {l : List Nat} (h : dErr l = 71) : dAt l = l.length := by
  rw [dAt_ne (by omega)]
  rcases dErr_cases l with c | c | c | c | c
  · omega
  · rw [c.2]
  · omega
  · omega
  · omega
theorem place_76 {l : List Nat} (h : dErr l = 76) : dAt l < l.length ∧ dErr (l.take (dAt l)) = 0 ∧ dAt (l.take (dAt l)) = 0 := by
  have e := dAt_ne (l := l) (by omega)
  have c : (dAll l).2.1 < l.length ∧ (dAll l).2.2 = false := by
    rcases dErr_cases l with c | c | c | c | c
    · omega
    · omega
    · exact c.2
    · omega
    · omega
  have hs := (dAll_same (ag_take (Nat.le_of_lt c.1)) (.inr ⟨rfl, c.2⟩)).2
  have h0 : dErr (l.take (dAll l).2.1) = 0 := by
    unfold dErr why
    rw [hs, c.2]
    simp
    omega
  rw [e]
  exact ⟨c.1, h0, dAt_zero h0⟩
theorem place_75 {l : List Nat} (h : dErr l = 74 ∨ dErr l = 75) : dAt l < l.length ∧ (dErr l = 74 ↔ dAt l = 0) ∧ dErr (l.take (dAt l)) = 71 ∧ dAt (l.take (dAt l)) = dAt l := by
  have e := dAt_ne (l := l) (by omega)
  have c : (dAll l).2.1 < l.length ∧ (dAll l).2.2 = true ∧ (dErr l = 74 ↔ (dAll l).2.1 = 0) := by
    rcases dErr_cases l with c | c | c | c | c
    · omega
    · omega
    · omega
    · exact ⟨c.2.1, c.2.2.1, by omega⟩
    · exact ⟨c.2.1, c.2.2.1, by omega⟩
  have hln : (l.take (dAll l).2.1).length = (dAll l).2.1 := by simp; omega
  have hs := dAll_cut (ag_take (Nat.le_of_lt c.1)) hln (fun hi => by
    rcases hi with hi | hi
    · exact absurd hi (Nat.lt_irrefl _)
    · rw [c.2.1] at hi; cases hi.2)
  have h0 : dErr (l.take (dAll l).2.1) = 71 := by
    unfold dErr why
    rw [hs, hln]
    simp
  have h1 := dAt_ne (l := l.take (dAll l).2.1) (by omega)
  rw [hs] at h1
  rw [e]
  exact ⟨c.1, c.2.2, h0, h1⟩
theorem place_again {l : List Nat} (h : dErr l = 74 ∨ dErr l = 75 ∨ dErr l = 76) (t : List Nat) : dErr (l.take (dAt l + 1) ++ t) = dErr l ∧ dAt (l.take (dAt l + 1) ++ t) = dAt l := by
  have e := dAt_ne (l := l) (by omega)
  have c : (dAll l).2.1 < l.length := by
    rcases dErr_cases l with c | c | c | c | c
    · omega
    · omega
    · exact c.2.1
    · exact c.2.1
    · exact c.2.1
  have hs := (dAll_same (ag_more (n := (dAll l).2.1 + 1) c t) (.inl (Nat.lt_succ_self _))).2
  rw [e]
  have hln : (dAll l).2.1 < (l.take ((dAll l).2.1 + 1) ++ t).length := by simp; omega
  have h0 : dErr (l.take ((dAll l).2.1 + 1) ++ t) = dErr l := by
    unfold dErr why
    rw [hs]
    have n1 : ¬ (dAll l).2.1 = (l.take ((dAll l).2.1 + 1) ++ t).length := by omega
    have n2 : ¬ (dAll l).2.1 = l.length := by omega
    rw [if_neg n1, if_neg n2, if_pos hln, if_pos c]
  exact ⟨h0, by rw [dAt_ne (by omega), hs]⟩
/-- a whole packet's beginnings are too short; with more behind it there is too much -/
theorem prefix_short {l : List Nat} (h : dErr l = 0) {n : Nat} (hn : n < l.length) : dErr (l.take n) = 71 ∧ dAt (l.take n) = n := by
  have c : (dAll l).2 = (l.length, false) := by
    rcases dErr_cases l with c | c | c | c | c
    · exact c.2
    · omega
    · omega
    · omega
    · omega
  have hln : (l.take n).length = n := by simp; omega
  have hs := dAll_cut (ag_take (Nat.le_of_lt hn)) hln (fun hi => by
    have := hi.le
    rw [c] at this
    simp at this
    omega)
  have h0 : dErr (l.take n) = 71 := by
    unfold dErr why
    rw [hs, hln]
    simp
  have h1 := dAt_ne (l := l.take n) (by omega)
  rw [hs] at h1
  exact ⟨h0, h1⟩
theorem prefix_more {l : List Nat} (h : dErr l = 0) {t : List Nat} (ht : 0 < t.length) : dErr (l ++ t) = 76 ∧ dAt (l ++ t) = l.length := by
  have c : (dAll l).2 = (l.length, false) := by
    rcases dErr_cases l with c | c | c | c | c
    · exact c.2
    · omega
    · omega
    · omega
    · omega
  have hA := ag_more (l := l) (Nat.le_refl _) t
  rw [List.take_length] at hA
  have hs := (dAll_same hA (by rw [c]; exact .inr ⟨rfl, rfl⟩)).2
  have h0 : dErr (l ++ t) = 76 := by
    have hln : l.length < (l ++ t).length := by simp; omega
    unfold dErr why
    rw [hs, c]
    rw [if_neg (by simp), if_pos hln]
  have h1 := dAt_ne (l := l ++ t) (by omega)
  rw [hs, c] at h1
  exact ⟨h0, h1⟩
end Go.Proofs.YtcjilmafdpnfeaaDoor
namespace Go.Proofs.YtcjilmafdpnfeaaDoor
open Go.RowKit
set_option linter.unusedVariables false
set_option linter.unusedSimpArgs false

/-! A packet written is read back, and what is read is what is written: numbers alone. -/
theorem meets_in {L : List (Nat × Nat)} {x lo hi : Nat} (h : meets L x x = true) (h1 : lo ≤ x) (h2 : x ≤ hi) : meets L lo hi = true := by
  unfold meets at h ⊢
  rw [List.any_eq_true] at h ⊢
  obtain ⟨q, hq, hh⟩ := h
  refine ⟨q, hq, ?_⟩
  simp only [Bool.and_eq_true, decide_eq_true_eq] at hh ⊢
  omega
theorem sg_succ {l : List Nat} {i k : Nat} (h : i < l.length) : sg l i (k + 1) = l.getD i 0 :: sg l (i + 1) k := by
  unfold sg
  rw [List.drop_eq_getElem_cons h, List.take_succ_cons]
  simp [List.getD_eq_getElem?_getD, h]
theorem sg_zero' (l : List Nat) (i : Nat) : sg l i 0 = [] := by simp [sg]
theorem getD_lt {l : List Nat} (hb : ∀ x ∈ l, x < 256) {i : Nat} (h : i < l.length) : l.getD i 0 < 256 := by
  rw [List.getD_eq_getElem?_getD, List.getElem?_eq_getElem h]
  exact hb _ (List.getElem_mem h)
theorem rdN_yes {l : List Nat} {L : List (Nat × Nat)} (hb : ∀ x ∈ l, x < 256) : ∀ k v at', at' + k ≤ l.length → meets L (v * 256 ^ k + bv (sg l at' k)) (v * 256 ^ k + bv (sg l at' k)) = true → rdN l L k v at' = (v * 256 ^ k + bv (sg l at' k), at' + k, false)
  | 0, v, at', _, _ => by simp [rdN, sg_zero', bv]
  | k + 1, v, at', h, hm => by
    have hlt : at' < l.length := by omega
    have e : v * 256 ^ (k + 1) + bv (sg l at' (k + 1)) = (v * 256 + l.getD at' 0) * 256 ^ k + bv (sg l (at' + 1) k) := by
      rw [sg_succ hlt, bv_cons, sg_len (by omega), Nat.add_mul, Nat.pow_succ, ← Nat.mul_assoc, Nat.mul_right_comm v, Nat.add_assoc]
    rw [e] at hm ⊢
    have hbv := bv_lt (sg l (at' + 1) k) (fun x hx => hb x (sg_mem hx))
    rw [sg_len (by omega)] at hbv
    rw [rdN, if_neg (by omega), if_pos (meets_in hm (by omega) (by omega)), rdN_yes hb k _ _ (by omega) hm, Nat.add_assoc, Nat.add_comm 1 k]
theorem rdN_only {l : List Nat} {L : List (Nat × Nat)} (hb : ∀ x ∈ l, x < 256) : ∀ k v at', at' ≤ l.length → (rdN l L k v at').2.2 = false → at' + k ≤ l.length ∧ rdN l L k v at' = (v * 256 ^ k + bv (sg l at' k), at' + k, false) ∧ (0 < k → meets L (v * 256 ^ k + bv (sg l at' k)) (v * 256 ^ k + bv (sg l at' k)) = true)
  | 0, v, at', h, _ => by refine ⟨by omega, by simp [rdN, sg_zero', bv], by omega⟩
  | k + 1, v, at', h, hs => by
    rw [rdN] at hs ⊢
    split at hs
    · cases hs
    · rename_i h1
      rw [if_neg h1]
      split at hs
      · rename_i h2
        rw [if_pos h2]
        have hlt : at' < l.length := by omega
        have e : v * 256 ^ (k + 1) + bv (sg l at' (k + 1)) = (v * 256 + l.getD at' 0) * 256 ^ k + bv (sg l (at' + 1) k) ∨ ¬ (at' + 1 + k ≤ l.length) := by
          by_cases hq : at' + 1 + k ≤ l.length
          · left
            rw [sg_succ hlt, bv_cons, sg_len (by omega), Nat.add_mul, Nat.pow_succ, ← Nat.mul_assoc, Nat.mul_right_comm v, Nat.add_assoc]
          · exact .inr hq
        obtain ⟨i1, i2, i3⟩ := rdN_only hb k _ (at' + 1) (by omega) hs
        rcases e with e | e
        · rw [e, i2]
          refine ⟨by omega, by rw [Nat.add_assoc, Nat.add_comm 1 k], fun _ => ?_⟩
          cases k with
          | zero =>
            rw [sg_zero']
            simpa [bv] using h2
          | succ k => exact i3 (by omega)
        · exact absurd i1 e
      · cases hs
theorem rdS_stuck {l : List Nat} {L : List (Nat × Nat)} {k at' : Nat} {st : Bool} (h : (rdS l L k at' st).2.2 = false) : st = false := by
  cases st with
  | false => rfl
  | true => exact absurd h (by simp [rdS])
/-- the same, of a reader that is not stuck -/
theorem rdS_yes {l : List Nat} {L : List (Nat × Nat)} (hb : ∀ x ∈ l, x < 256) {k at' x : Nat} (h : at' + k ≤ l.length) (hx : sg l at' k = be x k) (hlt : x < 256 ^ k) (hm : meets L x x = true) : rdS l L k at' false = (x, at' + k, false) := by
  have e : 0 * 256 ^ k + bv (sg l at' k) = x := by rw [hx, bv_be, Nat.zero_mul, Nat.zero_add, Nat.mod_eq_of_lt hlt]
  have := rdN_yes hb k 0 at' h (by rw [e]; exact hm)
  rw [e] at this
  exact this
theorem rdS_only {l : List Nat} {L : List (Nat × Nat)} (hb : ∀ x ∈ l, x < 256) {k at' : Nat} {st : Bool} (ha : at' ≤ l.length) (hk : 0 < k) (h : (rdS l L k at' st).2.2 = false) :
    at' + k ≤ l.length ∧ (rdS l L k at' st).2.1 = at' + k ∧ sg l at' k = be (rdS l L k at' st).1 k ∧ (rdS l L k at' st).1 < 256 ^ k ∧ meets L (rdS l L k at' st).1 (rdS l L k at' st).1 = true := by
  obtain rfl := rdS_stuck h
  obtain ⟨h1, h2, h3⟩ := rdN_only (L := L) hb k 0 at' ha h
  have e : rdS l L k at' false = (bv (sg l at' k), at' + k, false) := by
    show rdN l L k 0 at' = _
    rw [h2, Nat.zero_mul, Nat.zero_add]
  rw [e]
  have hm := h3 hk
  rw [Nat.zero_mul, Nat.zero_add] at hm
  have hl := bv_lt (sg l at' k) (fun x hx => hb x (sg_mem hx))
  have hbb := be_bv (sg l at' k) (fun x hx => hb x (sg_mem hx))
  rw [sg_len h1] at hl hbb
  exact ⟨h1, rfl, hbb.symm, hl, hm⟩
/-! the digest -/
theorem sumF_stuck {l : List Nat} {L : List (Nat × Nat)} {s0 : List Nat} {at' : Nat} {st : Bool} : ∀ {k}, (sumF l L s0 at' st k).2.2 = false → st = false
  | 0, h => h
  | k + 1, h => sumF_stuck (k := k) (rdS_stuck h)
theorem set_front {s0 t : List Nat} {k x : Nat} (h : k < s0.length) (ht : t.length = k) : (t ++ s0.drop k).set k x = t ++ [x] ++ s0.drop (k + 1) := by
  rw [List.set_append_right _ _ (by omega), ht, Nat.sub_self, List.drop_eq_getElem_cons h, List.set_cons_zero, List.append_assoc]
  rfl
theorem sg_snoc {l : List Nat} {i k : Nat} (h : i + k < l.length) : sg l i (k + 1) = sg l i k ++ [l.getD (i + k) 0] := by
  rw [← sg_join l i k 1, sg_succ h, sg_zero']
theorem sumF_yes {l : List Nat} {L : List (Nat × Nat)} (hb : ∀ x ∈ l, x < 256) {s0 : List Nat} {at' : Nat} : ∀ k, k ≤ s0.length → at' + k ≤ l.length → (∀ i, i < k → meets L (l.getD (at' + i) 0) (l.getD (at' + i) 0) = true) → sumF l L s0 at' false k = (sg l at' k ++ s0.drop k, at' + k, false)
  | 0, _, _, _ => by simp [sumF, sg_zero']
  | k + 1, hk, h, hm => by
    have i := sumF_yes (s0 := s0) (at' := at') hb k (by omega) (by omega) fun i hi => hm i (by omega)
    have hlt : at' + k < l.length := by omega
    have r := rdS_yes (L := L) (k := 1) (at' := at' + k) (x := l.getD (at' + k) 0) hb (by omega) (by rw [sg_succ hlt, sg_zero']; have := getD_lt hb hlt; simp only [be]; rw [Nat.pow_zero, Nat.div_one, Nat.mod_eq_of_lt this]) (by have := getD_lt hb hlt; omega) (hm k (by omega))
    rw [sumF, i, r, set_front (by omega) (sg_len (by omega)), sg_snoc hlt]
    rfl
theorem sumF_only {l : List Nat} {L : List (Nat × Nat)} (hb : ∀ x ∈ l, x < 256) {s0 : List Nat} {at' : Nat} {st : Bool} (ha : at' ≤ l.length) : ∀ k, k ≤ s0.length → (sumF l L s0 at' st k).2.2 = false → at' + k ≤ l.length ∧ sumF l L s0 at' st k = (sg l at' k ++ s0.drop k, at' + k, false) ∧ ∀ i, i < k → meets L (l.getD (at' + i) 0) (l.getD (at' + i) 0) = true
  | 0, _, h => ⟨by omega, by have := sumF_stuck h; subst this; simp [sumF, sg_zero'], fun i hi => by omega⟩
  | k + 1, hk, h => by
    have hs : (sumF l L s0 at' st k).2.2 = false := rdS_stuck h
    obtain ⟨i1, i2, i3⟩ := sumF_only hb ha k (by omega) hs
    rw [sumF, i2] at h ⊢
    obtain ⟨r1, r2, r3, r4, r5⟩ := rdS_only (L := L) (k := 1) hb i1 (by decide) h
    have hlt : at' + k < l.length := by omega
    have hx : (rdS l L 1 (at' + k) false).1 = l.getD (at' + k) 0 := by
      rw [sg_succ hlt, sg_zero'] at r3
      simp only [be, Nat.pow_zero, Nat.div_one, List.cons.injEq, and_true] at r3
      rw [r3, Nat.mod_eq_of_lt (by omega)]
    refine ⟨by omega, ?_, fun i hi => ?_⟩
    · simp only at h r2 ⊢
      rw [hx, set_front (by omega) (sg_len (by omega)), sg_snoc hlt]
      refine Prod.ext rfl (Prod.ext r2 h)
    · by_cases e : i < k
      · exact i3 i e
      · obtain rfl : i = k := by omega
        rw [hx] at r5; exact r5
/-! the slots of a packet -/
def Fd.slot : Fd → Nat
  | .num n => (bnd n).1
  | .ids => 5
  | .sum _ => 6
  | .dat _ _ _ => 7
/-- which slots what may stand there hangs on -/
def Fd.deps : Fd → List Nat
  | .num n => if n = 1 then [0] else if n = 9 then [1] else []
  | .ids => []
  | .sum t => if t then [4] else []
  | .dat _ _ t => if t then [4] else []
/-- the two are alike at a slot -/
def Eqs (p q : PV) : Nat → Prop
  | 0 => p.a = q.a
  | 1 => p.b = q.b
  | 2 => p.c = q.c
  | 3 => p.d = q.d
  | 4 => p.e = q.e
  | 5 => p.g0 = q.g0 ∧ p.g1 = q.g1 ∧ p.g2 = q.g2 ∧ p.g3 = q.g3
  | 6 => p.s = q.s
  | 7 => p.dl = q.dl
  | _ => True
theorem Eqs.refl (p : PV) : ∀ i, Eqs p p i
  | 0 | 1 | 2 | 3 | 4 | 6 | 7 => rfl
  | 5 => ⟨rfl, rfl, rfl, rfl⟩
  | n + 8 => trivial
theorem Eqs.symm {p q : PV} : ∀ {i}, Eqs p q i → Eqs q p i
  | 0, h | 1, h | 2, h | 3, h | 4, h | 6, h | 7, h => Eq.symm h
  | 5, ⟨a, b, c, d⟩ => ⟨a.symm, b.symm, c.symm, d.symm⟩
  | n + 8, _ => trivial
theorem Eqs.trans {p q r : PV} : ∀ {i}, Eqs p q i → Eqs q r i → Eqs p r i
  | 0, h, g | 1, h, g | 2, h, g | 3, h, g | 4, h, g | 6, h, g | 7, h, g => Eq.trans h g
  | 5, ⟨a, b, c, d⟩, ⟨e, f, g, h⟩ => ⟨a.trans e, b.trans f, c.trans g, d.trans h⟩
  | n + 8, _, _ => trivial
theorem Eqs.all {p q : PV} (h : ∀ i, i < 8 → Eqs p q i) : p = q := by
  have h0 := h 0 (by decide); have h1 := h 1 (by decide); have h2 := h 2 (by decide); have h3 := h 3 (by decide); have h4 := h 4 (by decide)
  obtain ⟨h5, h6, h7, h8⟩ := h 5 (by decide)
  have h9 := h 6 (by decide); have h10 := h 7 (by decide)
  obtain ⟨_, _, _, _, _, _, _, _, _, _, _⟩ := p
  obtain ⟨_, _, _, _, _, _, _, _, _, _, _⟩ := q
  simp only [Eqs] at h0 h1 h2 h3 h4 h5 h6 h7 h8 h9 h10
  subst h0 h1 h2 h3 h4 h5 h6 h7 h8 h9 h10
  rfl
theorem Eqs.get {p q : PV} {i : Nat} (hi : i < 5) (h : Eqs p q i) : p.get i = q.get i := by
  match i, hi, h with
  | 0, _, h | 1, _, h | 2, _, h | 3, _, h | 4, _, h => exact h
theorem set_same (p : PV) {i : Nat} (hi : i < 5) (x : Nat) : (p.set i x).get i = x := by
  match i, hi with
  | 0, _ | 1, _ | 2, _ | 3, _ | 4, _ => rfl
theorem set_eqs (p q : PV) {i : Nat} (hi : i < 5) (h : p.get i = q.get i) : Eqs p q i := by
  match i, hi, h with
  | 0, _, h | 1, _, h | 2, _, h | 3, _, h | 4, _, h => exact h
theorem set_other (p : PV) (i x : Nat) {j : Nat} (h : j ≠ i) : Eqs (p.set i x) p j := by
  match i with
  | 0 => match j, h with
    | 0, h => exact absurd rfl h
    | 1, _ | 2, _ | 3, _ | 4, _ | 6, _ | 7, _ => rfl
    | 5, _ => exact ⟨rfl, rfl, rfl, rfl⟩
    | n + 8, _ => trivial
  | 1 => match j, h with
    | 1, h => exact absurd rfl h
    | 0, _ | 2, _ | 3, _ | 4, _ | 6, _ | 7, _ => rfl
    | 5, _ => exact ⟨rfl, rfl, rfl, rfl⟩
    | n + 8, _ => trivial
  | 2 => match j, h with
    | 2, h => exact absurd rfl h
    | 0, _ | 1, _ | 3, _ | 4, _ | 6, _ | 7, _ => rfl
    | 5, _ => exact ⟨rfl, rfl, rfl, rfl⟩
    | n + 8, _ => trivial
  | 3 => match j, h with
    | 3, h => exact absurd rfl h
    | 0, _ | 1, _ | 2, _ | 4, _ | 6, _ | 7, _ => rfl
    | 5, _ => exact ⟨rfl, rfl, rfl, rfl⟩
    | n + 8, _ => trivial
  | 4 => match j, h with
    | 4, h => exact absurd rfl h
    | 0, _ | 1, _ | 2, _ | 3, _ | 6, _ | 7, _ => rfl
    | 5, _ => exact ⟨rfl, rfl, rfl, rfl⟩
    | n + 8, _ => trivial
  | n + 5 => exact Eqs.refl p j
theorem bndF_lt (n : Nat) : (bnd n).1 < 5 := by
  by_cases h : n < 18
  · rcases (show n = 0 ∨ n = 1 ∨ n = 2 ∨ n = 3 ∨ n = 4 ∨ n = 5 ∨ n = 6 ∨ n = 7 ∨ n = 8 ∨ n = 9 ∨ n = 10 ∨ n = 11 ∨ n = 12 ∨ n = 13 ∨ n = 14 ∨ n = 15 ∨ n = 16 ∨ n = 17 by omega) with rfl | rfl | rfl | rfl | rfl | rfl | rfl | rfl | rfl | rfl | rfl | rfl | rfl | rfl | rfl | rfl | rfl | rfl <;> decide
  · have : bnd n = (0, 0, 0) := by unfold bnd; rw [List.getD_eq_getElem?_getD, List.getElem?_eq_none (by simp [bndL]; omega)]; rfl
    rw [this]; decide
theorem encF_eqs {p q : PV} {f : Fd} (h : Eqs p q f.slot) : encF p f = encF q f := by
  cases f with
  | num n => simp only [encF]; rw [Eqs.get (bndF_lt n) h]
  | ids => obtain ⟨h1, h2, h3, h4⟩ := h; simp only [encF]; rw [h1, h2, h3, h4]
  | sum t => exact h
  | dat lo hi t => have h : p.dl = q.dl := h; simp only [encF]; rw [h]
theorem mayL_deps {p q : PV} {n : Nat} (h : ∀ i ∈ (Fd.num n).deps, Eqs p q i) : mayL n p.a p.b = mayL n q.a q.b := by
  unfold mayL
  by_cases h1 : n = 1
  · subst h1
    have : p.a = q.a := h 0 (by simp [Fd.deps])
    rw [this]; rfl
  · by_cases h9 : n = 9
    · subst h9
      have : p.b = q.b := h 1 (by simp [Fd.deps])
      rw [this]; rfl
    · simp [h1, h9]
theorem smayL_deps {p q : PV} {t : Bool} (h : ∀ i ∈ (Fd.sum t).deps, Eqs p q i) : smayL t p.e = smayL t q.e := by
  cases t with
  | false => rfl
  | true => have : p.e = q.e := h 4 (by simp [Fd.deps]); rw [this]
theorem dmayL_deps {p q : PV} {lo hi : Nat} {t : Bool} (h : ∀ i ∈ (Fd.dat lo hi t).deps, Eqs p q i) : dmayL lo hi t p.e = dmayL lo hi t q.e := by
  cases t with
  | false => rfl
  | true => have : p.e = q.e := h 4 (by simp [Fd.deps]); rw [this]
theorem fitF_eqs {p q : PV} {f : Fd} (h : Eqs p q f.slot) (hd : ∀ i ∈ f.deps, Eqs p q i) : fitF p f = fitF q f := by
  cases f with
  | num n => simp only [fitF]; rw [Eqs.get (bndF_lt n) h, mayL_deps hd]
  | ids => rfl
  | sum t => have h : p.s = q.s := h; simp only [fitF]; rw [h, smayL_deps hd]
  | dat lo hi t => have h : p.dl = q.dl := h; simp only [fitF]; rw [h, dmayL_deps hd]
theorem blankF_slot (p : PV) (f : Fd) : Eqs (blankF p f) PV.zero f.slot := by
  cases f with
  | num n => exact set_eqs _ _ (bndF_lt n) (by show (p.set (bnd n).1 0).get (bnd n).1 = PV.zero.get (bnd n).1; rw [set_same p (bndF_lt n)]; have := bndF_lt n; revert this; generalize (bnd n).1 = i; intro hi; match i, hi with | 0, _ | 1, _ | 2, _ | 3, _ | 4, _ => rfl)
  | ids => exact ⟨rfl, rfl, rfl, rfl⟩
  | sum t => rfl
  | dat lo hi t => rfl
theorem blankF_other (p : PV) (f : Fd) {i : Nat} (h : i ≠ f.slot) : Eqs (blankF p f) p i := by
  cases f with
  | num n => exact set_other p _ 0 h
  | ids => match i, h with
    | 5, h => exact absurd rfl h
    | 0, _ | 1, _ | 2, _ | 3, _ | 4, _ | 6, _ | 7, _ => rfl
    | n + 8, _ => trivial
  | sum t => match i, h with
    | 6, h => exact absurd rfl h
    | 0, _ | 1, _ | 2, _ | 3, _ | 4, _ | 7, _ => rfl
    | 5, _ => exact ⟨rfl, rfl, rfl, rfl⟩
    | n + 8, _ => trivial
  | dat lo hi t => match i, h with
    | 7, h => exact absurd rfl h
    | 0, _ | 1, _ | 2, _ | 3, _ | 4, _ | 6, _ => rfl
    | 5, _ => exact ⟨rfl, rfl, rfl, rfl⟩
    | n + 8, _ => trivial
theorem blanks_other (fs : List Fd) : ∀ p : PV, ∀ i, i ∉ fs.map Fd.slot → Eqs (fs.foldl blankF p) p i := by
  induction fs with
  | nil => exact fun p i _ => Eqs.refl p i
  | cons f fs ih =>
    intro p i h
    simp only [List.map_cons, List.mem_cons, not_or] at h
    exact (ih (blankF p f) i h.2).trans (blankF_other p f h.1)
theorem blanks_slot (fs : List Fd) : ∀ p : PV, ∀ i, i ∈ fs.map Fd.slot → Eqs (fs.foldl blankF p) PV.zero i := by
  induction fs with
  | nil => exact fun p i h => by cases h
  | cons f fs ih =>
    intro p i h
    by_cases e : i ∈ fs.map Fd.slot
    · exact ih _ i e
    · simp only [List.map_cons, List.mem_cons] at h
      rcases h with h | h
      · subst h
        exact (blanks_other fs (blankF p f) _ e).trans (blankF_slot p f)
      · exact absurd h e
theorem empty_zero {p : PV} (hn : p.s.length = 32) (h : p.empty = true) : p = PV.zero := by
  obtain ⟨a, b, c, d, e, g0, g1, g2, g3, s, dl⟩ := p
  simp only [PV.empty, Bool.and_eq_true, beq_iff_eq, List.all_eq_true, List.isEmpty_iff] at h
  obtain ⟨⟨⟨⟨⟨⟨⟨h1, h2⟩, h3⟩, h4⟩, h5⟩, ⟨⟨h6, h7⟩, h8⟩, h9⟩, h10⟩, h11⟩ := h
  have hs : s = List.replicate 32 0 := List.eq_replicate_iff.2 ⟨hn, h10⟩
  subst h1 h2 h3 h4 h5 h6 h7 h8 h9 h11 hs
  rfl
theorem zero_empty : PV.zero.empty = true := by decide
theorem blanks_len (fs : List Fd) : ∀ p : PV, p.s.length = 32 → (fs.foldl blankF p).s.length = 32 := by
  induction fs with
  | nil => exact fun p h => h
  | cons f fs ih =>
    intro p h
    refine ih _ ?_
    cases f with
    | num n => 
      have := bndF_lt n
      show (p.set (bnd n).1 0).s.length = 32
      revert this; generalize (bnd n).1 = i; intro hi
      match i, hi with | 0, _ | 1, _ | 2, _ | 3, _ | 4, _ => exact h
    | ids => exact h
    | sum t => rfl
    | dat lo hi t => exact h
theorem sg_split {l : List Nat} {i m n : Nat} {A B : List Nat} (hA : A.length = m) (h : sg l i (m + n) = A ++ B) (hl : i + m ≤ l.length) : sg l i m = A ∧ sg l (i + m) n = B := by
  rw [← sg_join] at h
  exact List.append_inj h (by rw [sg_len hl, hA])
theorem meets_ids (x : Nat) (h : x < 256 ^ 8) : meets [(0, 18446744073709551615)] x x = true := by
  simp [meets]; omega
theorem getD_sg {l s : List Nat} {at' : Nat} (h : sg l at' s.length = s) {i : Nat} (hi : i < s.length) : l.getD (at' + i) 0 = s.getD i 0 := by
  rw [← sg_getD hi, h]
theorem fit_len {p : PV} {lo hi : Nat} {t : Bool} (h : fitF p (.dat lo hi t) = true) (hh : hi < 65536) : p.dl.length < 65536 := by
  have h : meets (dmayL lo hi t p.e) p.dl.length p.dl.length = true := h
  unfold meets dmayL at h
  split at h <;> simp only [List.any_cons, List.any_nil, Bool.or_false, Bool.and_eq_true, decide_eq_true_eq] at h <;> omega
theorem get_lt {p : PV} (h : p.Ok) {i : Nat} (hi : i < 5) : p.get i < 256 ^ 4 := by
  match i, hi with
  | 0, _ => exact h.a
  | 1, _ => exact h.b
  | 2, _ => exact h.c
  | 3, _ => exact h.d
  | 4, _ => exact h.e
theorem set_s (p : PV) (i x : Nat) : (p.set i x).s = p.s := by
  match i with
  | 0 | 1 | 2 | 3 | 4 | n + 5 => rfl
/-- a field that is written is read back -/
theorem field_back {l : List Nat} (hb : ∀ x ∈ l, x < 256) {p q : PV} (hp : p.Ok) (hq : q.s.length = 32) {f : Fd} {at' : Nat} (hok : f.Ok) (hfit : fitF p f = true) (hd : ∀ i ∈ f.deps, Eqs q p i) (hlen : at' + (encF p f).length ≤ l.length) (hs : sg l at' (encF p f).length = encF p f) :
    ∃ q', fieldF l q at' false f = (q', at' + (encF p f).length, false) ∧ Eqs q' p f.slot ∧ (∀ i, i ≠ f.slot → Eqs q' q i) ∧ q'.s.length = 32 := by
  cases f with
  | num n =>
    have el : (encF p (.num n)).length = 4 := be_len _ 4
    rw [el] at hlen hs ⊢
    have r := rdS_yes (L := mayL n q.a q.b) hb hlen hs (get_lt hp (bndF_lt n)) (by rw [mayL_deps hd]; exact hfit)
    refine ⟨q.set (bnd n).1 (p.get (bnd n).1), ?_, set_eqs _ _ (bndF_lt n) (set_same q (bndF_lt n) _), fun i hi => set_other q _ _ hi, by rw [set_s]; exact hq⟩
    simp only [fieldF]; rw [r]
  | ids =>
    have el : (encF p .ids).length = 32 := by simp [encF, be_len]
    rw [el] at hlen hs ⊢
    have h1 := sg_split (m := 24) (n := 8) (A := be p.g0 8 ++ be p.g1 8 ++ be p.g2 8) (B := be p.g3 8) (by simp [be_len]) hs (by omega)
    have h2 := sg_split (m := 16) (n := 8) (A := be p.g0 8 ++ be p.g1 8) (B := be p.g2 8) (by simp [be_len]) h1.1 (by omega)
    have h3 := sg_split (m := 8) (n := 8) (A := be p.g0 8) (B := be p.g1 8) (by simp [be_len]) h2.1 (by omega)
    have r0 := rdS_yes (L := [(0, 18446744073709551615)]) hb (by omega) h3.1 hp.g0 (meets_ids _ hp.g0)
    have r1 := rdS_yes (L := [(0, 18446744073709551615)]) hb (by omega) h3.2 hp.g1 (meets_ids _ hp.g1)
    have r2 := rdS_yes (L := [(0, 18446744073709551615)]) hb (by omega) h2.2 hp.g2 (meets_ids _ hp.g2)
    have r3 := rdS_yes (L := [(0, 18446744073709551615)]) hb (by omega) h1.2 hp.g3 (meets_ids _ hp.g3)
    refine ⟨{ q with g0 := p.g0, g1 := p.g1, g2 := p.g2, g3 := p.g3 }, ?_, ⟨rfl, rfl, rfl, rfl⟩, fun i hi => ?_, hq⟩
    · simp only [fieldF]
      rw [r0]; simp only
      rw [r1]; simp only
      rw [show at' + 8 + 8 = at' + 16 by omega, r2]; simp only
      rw [show at' + 16 + 8 = at' + 24 by omega, r3]
    · match i, hi with
      | 5, h => exact absurd rfl h
      | 0, _ | 1, _ | 2, _ | 3, _ | 4, _ | 6, _ | 7, _ => rfl
      | n + 8, _ => trivial
  | sum t =>
    have el : (encF p (.sum t)).length = 32 := hp.n
    have hs' : sg l at' p.s.length = p.s := hs
    rw [el] at hlen hs ⊢
    have hs : sg l at' 32 = p.s := hs
    have hf : (p.s.all fun x => meets (smayL t p.e) x x) = true := hfit
    rw [List.all_eq_true] at hf
    have r := sumF_yes (L := smayL t q.e) (s0 := q.s) hb 32 (by omega) hlen (fun i hi => by
      rw [getD_sg hs' (by rw [hp.n]; exact hi), smayL_deps hd, List.getD_eq_getElem?_getD, List.getElem?_eq_getElem (by rw [hp.n]; exact hi)]
      exact hf _ (List.getElem_mem _))
    refine ⟨{ q with s := p.s }, ?_, rfl, fun i hi => ?_, hp.n⟩
    · simp only [fieldF]; rw [r, hs, List.drop_of_length_le (by omega), List.append_nil]
    · match i, hi with
      | 6, h => exact absurd rfl h
      | 0, _ | 1, _ | 2, _ | 3, _ | 4, _ | 7, _ => rfl
      | 5, _ => exact ⟨rfl, rfl, rfl, rfl⟩
      | n + 8, _ => trivial
  | dat lo hi t =>
    have hdl := fit_len hfit hok.2
    have el : (encF p (.dat lo hi t)).length = 2 + p.dl.length := by simp [encF, be_len]
    rw [el] at hlen hs ⊢
    have h1 := sg_split (m := 2) (n := p.dl.length) (A := be p.dl.length 2) (B := p.dl) (be_len _ 2) hs (by omega)
    have r := rdS_yes (L := dmayL lo hi t q.e) hb (by omega) h1.1 (by exact hdl) (by rw [dmayL_deps hd]; exact hfit)
    refine ⟨{ q with dl := p.dl }, ?_, rfl, fun i hi => ?_, hq⟩
    · simp only [fieldF]
      rw [r]; simp only [tkR]
      by_cases e : p.dl.length = 0
      · rw [if_pos (.inr e), List.length_eq_zero_iff.1 e]; rfl
      · rw [if_neg (by simp [e]), if_neg (by omega), h1.2, Nat.add_assoc]
    · match i, hi with
      | 7, h => exact absurd rfl h
      | 0, _ | 1, _ | 2, _ | 3, _ | 4, _ | 6, _ => rfl
      | 5, _ => exact ⟨rfl, rfl, rfl, rfl⟩
      | n + 8, _ => trivial
theorem set_ok {p : PV} (h : p.Ok) (i x : Nat) (hx : x < 4294967296) : (p.set i x).Ok := by
  obtain ⟨h1, h2, h3, h4, h5, h6, h7, h8, h9, h10, h11⟩ := h
  match i with
  | 0 => exact ⟨hx, h2, h3, h4, h5, h6, h7, h8, h9, h10, h11⟩
  | 1 => exact ⟨h1, hx, h3, h4, h5, h6, h7, h8, h9, h10, h11⟩
  | 2 => exact ⟨h1, h2, hx, h4, h5, h6, h7, h8, h9, h10, h11⟩
  | 3 => exact ⟨h1, h2, h3, hx, h5, h6, h7, h8, h9, h10, h11⟩
  | 4 => exact ⟨h1, h2, h3, h4, hx, h6, h7, h8, h9, h10, h11⟩
  | n + 5 => exact ⟨h1, h2, h3, h4, h5, h6, h7, h8, h9, h10, h11⟩
set_option maxHeartbeats 1000000 in
/-- what a field was read from is what is written of it -/
theorem field_only {l : List Nat} (hb : ∀ x ∈ l, x < 256) {q : PV} (hq : q.Ok) {f : Fd} {at' : Nat} {st : Bool} (ha : at' ≤ l.length) (h : (fieldF l q at' st f).2.2 = false) :
    st = false ∧ at' + (encF (fieldF l q at' st f).1 f).length ≤ l.length ∧ (fieldF l q at' st f).2.1 = at' + (encF (fieldF l q at' st f).1 f).length ∧ sg l at' (encF (fieldF l q at' st f).1 f).length = encF (fieldF l q at' st f).1 f ∧
      (∀ r, Eqs r (fieldF l q at' st f).1 f.slot → (∀ i ∈ f.deps, Eqs r q i) → fitF r f = true) ∧ (∀ i, i ≠ f.slot → Eqs (fieldF l q at' st f).1 q i) ∧ (fieldF l q at' st f).1.Ok := by
  cases f with
  | num n =>
    have h : (rdS l (mayL n q.a q.b) 4 at' st).2.2 = false := h
    obtain ⟨r1, r2, r3, r4, r5⟩ := rdS_only hb ha (by decide) h
    have e : (fieldF l q at' st (.num n)).1.get (bnd n).1 = (rdS l (mayL n q.a q.b) 4 at' st).1 := set_same q (bndF_lt n) _
    have el : (encF (fieldF l q at' st (.num n)).1 (.num n)).length = 4 := be_len _ 4
    rw [el]
    refine ⟨rdS_stuck h, r1, r2, ?_, fun r hr hd => ?_, fun i hi => set_other q _ _ hi, set_ok hq _ _ r4⟩
    · show _ = be ((fieldF l q at' st (.num n)).1.get (bnd n).1) 4
      rw [e]; exact r3
    · show meets (mayL n r.a r.b) (r.get (bnd n).1) (r.get (bnd n).1) = true
      rw [Eqs.get (bndF_lt n) hr, e, mayL_deps hd]; exact r5
  | ids =>
    have h : (rdS l [(0, 18446744073709551615)] 8 (rdS l [(0, 18446744073709551615)] 8 (rdS l [(0, 18446744073709551615)] 8 (rdS l [(0, 18446744073709551615)] 8 at' st).2.1 (rdS l [(0, 18446744073709551615)] 8 at' st).2.2).2.1 (rdS l [(0, 18446744073709551615)] 8 (rdS l [(0, 18446744073709551615)] 8 at' st).2.1 (rdS l [(0, 18446744073709551615)] 8 at' st).2.2).2.2).2.1 (rdS l [(0, 18446744073709551615)] 8 (rdS l [(0, 18446744073709551615)] 8 (rdS l [(0, 18446744073709551615)] 8 at' st).2.1 (rdS l [(0, 18446744073709551615)] 8 at' st).2.2).2.1 (rdS l [(0, 18446744073709551615)] 8 (rdS l [(0, 18446744073709551615)] 8 at' st).2.1 (rdS l [(0, 18446744073709551615)] 8 at' st).2.2).2.2).2.2).2.2 = false := h
    have h2 := rdS_stuck h
    have h1 := rdS_stuck h2
    have h0 := rdS_stuck h1
    obtain ⟨a1, a2, a3, a4, a5⟩ := rdS_only hb ha (by decide) h0
    obtain ⟨b1, b2, b3, b4, b5⟩ := rdS_only hb (by rw [a2]; exact a1) (by decide) h1
    obtain ⟨c1, c2, c3, c4, c5⟩ := rdS_only hb (by rw [b2]; exact b1) (by decide) h2
    obtain ⟨d1, d2, d3, d4, d5⟩ := rdS_only hb (by rw [c2]; exact c1) (by decide) h
    have el : (encF (fieldF l q at' st .ids).1 .ids).length = 32 := by simp [encF, be_len]
    rw [el]
    refine ⟨rdS_stuck h0, by omega, ?_, ?_, fun r hr hd => rfl, fun i hi => ?_, ⟨hq.a, hq.b, hq.c, hq.d, hq.e, a4, b4, c4, d4, hq.n, hq.s⟩⟩
    · have : (fieldF l q at' st .ids).2.1 = _ := d2
      rw [this, c2, b2, a2]
    · have e3 : sg l at' 32 = sg l at' 8 ++ sg l (at' + 8) 8 ++ sg l (at' + 8 + 8) 8 ++ sg l (at' + 8 + 8 + 8) 8 := by
        rw [sg_join l at' 8 8, show at' + 8 + 8 + 8 = at' + 24 by omega, show at' + 8 + 8 = at' + 16 by omega, sg_join l at' 16 8, sg_join l at' 24 8]
      rw [c2, b2, a2] at d3
      rw [b2, a2] at c3
      rw [a2] at b3
      rw [e3, a3, b3, c3, d3]
      simp only [encF, fieldF]
      rw [c2, b2, a2]
    · match i, hi with
      | 5, h => exact absurd rfl h
      | 0, _ | 1, _ | 2, _ | 3, _ | 4, _ | 6, _ | 7, _ => rfl
      | n + 8, _ => trivial
  | sum t =>
    have h : (sumF l (smayL t q.e) q.s at' st 32).2.2 = false := h
    obtain ⟨r1, r2, r3⟩ := sumF_only hb ha 32 (by rw [hq.n]; decide) h
    have hfe : fieldF l q at' st (.sum t) = ({ q with s := sg l at' 32 }, at' + 32, false) := by
      simp only [fieldF]; rw [r2, List.drop_of_length_le (by rw [hq.n]; decide), List.append_nil]
    have hst := sumF_stuck h
    clear h r2
    rw [hfe]
    have el : (encF { q with s := sg l at' 32 } (.sum t)).length = 32 := sg_len r1
    rw [el]
    refine ⟨hst, r1, rfl, rfl, fun r hr hd => ?_, fun i hi => ?_, ⟨hq.a, hq.b, hq.c, hq.d, hq.e, hq.g0, hq.g1, hq.g2, hq.g3, el, fun x hx => hb x (sg_mem hx)⟩⟩
    · have hr : r.s = sg l at' 32 := hr
      show (r.s.all fun x => meets (smayL t r.e) x x) = true
      rw [hr, smayL_deps hd, List.all_eq_true]
      intro x hx
      obtain ⟨i, hi, rfl⟩ := List.getElem_of_mem hx
      rw [sg_len r1] at hi
      have := r3 i hi
      rw [← sg_getD hi, List.getD_eq_getElem?_getD, List.getElem?_eq_getElem (by rw [sg_len r1]; exact hi)] at this
      exact this
    · match i, hi with
      | 6, h => exact absurd rfl h
      | 0, _ | 1, _ | 2, _ | 3, _ | 4, _ | 7, _ => rfl
      | 5, _ => exact ⟨rfl, rfl, rfl, rfl⟩
      | n + 8, _ => trivial
  | dat lo hi t =>
    have h : (tkR l (rdS l (dmayL lo hi t q.e) 2 at' st).2.1 (rdS l (dmayL lo hi t q.e) 2 at' st).2.2 (rdS l (dmayL lo hi t q.e) 2 at' st).1).2.2 = false := h
    have h0 : (rdS l (dmayL lo hi t q.e) 2 at' st).2.2 = false := by
      cases e : (rdS l (dmayL lo hi t q.e) 2 at' st).2.2 with
      | false => rfl
      | true => rw [e] at h; simp [tkR] at h
    obtain ⟨r1, r2, r3, r4, r5⟩ := rdS_only hb ha (by decide) h0
    have hok : ∀ d, ({ q with dl := d } : PV).Ok := fun d => ⟨hq.a, hq.b, hq.c, hq.d, hq.e, hq.g0, hq.g1, hq.g2, hq.g3, hq.n, hq.s⟩
    have key : (rdS l (dmayL lo hi t q.e) 2 at' st).1 ≤ l.length - (at' + 2) ∧ tkR l (rdS l (dmayL lo hi t q.e) 2 at' st).2.1 (rdS l (dmayL lo hi t q.e) 2 at' st).2.2 (rdS l (dmayL lo hi t q.e) 2 at' st).1 = (sg l (at' + 2) (rdS l (dmayL lo hi t q.e) 2 at' st).1, at' + 2 + (rdS l (dmayL lo hi t q.e) 2 at' st).1, false) := by
      rw [h0, r2] at h ⊢
      revert h
      generalize (rdS l (dmayL lo hi t q.e) 2 at' st).1 = n
      intro h
      simp only [tkR] at h ⊢
      by_cases e : n = 0
      · subst e; simp [sg]
      · rw [if_neg (by simp [e])] at h ⊢
        split at h
        · cases h
        · rename_i e2
          rw [if_neg e2]; exact ⟨by omega, rfl⟩
    have hfe : fieldF l q at' st (.dat lo hi t) = ({ q with dl := sg l (at' + 2) (rdS l (dmayL lo hi t q.e) 2 at' st).1 }, at' + 2 + (rdS l (dmayL lo hi t q.e) 2 at' st).1, false) := by
      simp only [fieldF]; rw [key.2]
    have hle := key.1
    rw [hfe]
    revert r3 r5 r4 hle
    generalize (rdS l (dmayL lo hi t q.e) 2 at' st).1 = n
    intro r3 r4 r5 hle
    have hln : (sg l (at' + 2) n).length = n := sg_len (by omega)
    have el : (encF { q with dl := sg l (at' + 2) n } (.dat lo hi t)).length = 2 + n := by simp [encF, be_len, hln]
    rw [el]
    refine ⟨rdS_stuck h0, by omega, by show at' + 2 + n = _; omega, ?_, fun r hr hd => ?_, fun i hi => ?_, hok _⟩
    · rw [← sg_join, r3]
      show _ = be (sg l (at' + 2) n).length 2 ++ sg l (at' + 2) n
      rw [hln]
    · have hr : r.dl = sg l (at' + 2) n := hr
      show meets (dmayL lo hi t r.e) r.dl.length r.dl.length = true
      rw [hr, hln, dmayL_deps hd]; exact r5
    · match i, hi with
      | 7, h => exact absurd rfl h
      | 0, _ | 1, _ | 2, _ | 3, _ | 4, _ | 6, _ => rfl
      | 5, _ => exact ⟨rfl, rfl, rfl, rfl⟩
      | n + 8, _ => trivial
/-- the order of a command's fields: no slot twice, and what may stand in one hangs on what stands ahead of it -/
def chk (S : List Nat) : List Fd → Bool
  | [] => true
  | f :: fs => !(S.contains f.slot) && f.deps.all (fun i => S.contains i) && chk (f.slot :: S) fs
theorem fdL_chk (c : Nat) : chk [] (fdL c) = true := by
  by_cases hc : c ≤ 25
  · rcases (show c = 0 ∨ c = 1 ∨ c = 2 ∨ c = 3 ∨ c = 4 ∨ c = 5 ∨ c = 6 ∨ c = 7 ∨ c = 8 ∨ c = 9 ∨ c = 10 ∨ c = 11 ∨ c = 12 ∨ c = 13 ∨ c = 14 ∨ c = 15 ∨ c = 16 ∨ c = 17 ∨ c = 18 ∨ c = 19 ∨ c = 20 ∨ c = 21 ∨ c = 22 ∨ c = 23 ∨ c = 24 ∨ c = 25 by omega) with rfl | rfl | rfl | rfl | rfl | rfl | rfl | rfl | rfl | rfl | rfl | rfl | rfl | rfl | rfl | rfl | rfl | rfl | rfl | rfl | rfl | rfl | rfl | rfl | rfl | rfl <;> decide
  · have : fdL c = [] := by unfold fdL; rw [List.getD_eq_getElem?_getD, List.getElem?_eq_none (by simp; omega)]; rfl
    rw [this]; rfl
theorem chk_cons {S : List Nat} {f : Fd} {fs : List Fd} (h : chk S (f :: fs) = true) : f.slot ∉ S ∧ (∀ i ∈ f.deps, i ∈ S) ∧ chk (f.slot :: S) fs = true := by
  simp only [chk, Bool.and_eq_true, Bool.not_eq_true', List.contains_eq_mem, decide_eq_false_iff_not, List.all_eq_true, decide_eq_true_eq] at h
  exact ⟨h.1.1, h.1.2, h.2⟩
theorem chk_apart {fs : List Fd} : ∀ {S : List Nat}, chk S fs = true → ∀ i ∈ S, i ∉ fs.map Fd.slot := by
  induction fs with
  | nil => intro S _ i _ h; cases h
  | cons f fs ih =>
    intro S h i hi
    obtain ⟨h1, h2, h3⟩ := chk_cons h
    simp only [List.map_cons, List.mem_cons, not_or]
    exact ⟨fun e => h1 (e ▸ hi), ih h3 i (List.mem_cons_of_mem _ hi)⟩
theorem fold_back {l : List Nat} (hb : ∀ x ∈ l, x < 256) {p : PV} (hp : p.Ok) (fs : List Fd) : ∀ (S : List Nat) (q : PV) (at' : Nat), chk S fs = true → (∀ f ∈ fs, f.Ok) → (∀ f ∈ fs, fitF p f = true) → q.s.length = 32 → (∀ i ∈ S, Eqs q p i) → at' + (encAll p fs).length ≤ l.length → sg l at' (encAll p fs).length = encAll p fs →
    ∃ r, fs.foldl (fun s f => fieldF l s.1 s.2.1 s.2.2 f) ((q, at', false) : PV × Nat × Bool) = (r, at' + (encAll p fs).length, false) ∧ (∀ i, i ∈ S ∨ i ∈ fs.map Fd.slot → Eqs r p i) ∧ ∀ i, i ∉ fs.map Fd.slot → Eqs r q i := by
  induction fs with
  | nil =>
    intro S q at' _ _ _ _ hS _ _
    refine ⟨q, rfl, fun i hi => ?_, fun i _ => Eqs.refl q i⟩
    rcases hi with hi | hi
    · exact hS i hi
    · cases hi
  | cons f fs ih =>
    intro S q at' hc hok hfit hq hS hlen hsg
    obtain ⟨c1, c2, c3⟩ := chk_cons hc
    have ee : encAll p (f :: fs) = encF p f ++ encAll p fs := by simp [encAll]
    rw [ee, List.length_append] at hlen hsg
    obtain ⟨g1, g2⟩ := sg_split rfl hsg (by omega)
    obtain ⟨q', e1, e2, e3, e4⟩ := field_back hb hp hq (hok f (by simp)) (hfit f (by simp)) (fun i hi => hS i (c2 i hi)) (by omega) g1
    obtain ⟨r, r1, r2, r3⟩ := ih (f.slot :: S) q' (at' + (encF p f).length) c3 (fun g hg => hok g (by simp [hg])) (fun g hg => hfit g (by simp [hg])) e4 (fun i hi => by
      rcases List.mem_cons.1 hi with rfl | hi
      · exact e2
      · exact (e3 i (fun e => c1 (e ▸ hi))).trans (hS i hi)) (by omega) g2
    refine ⟨r, ?_, fun i hi => r2 i ?_, fun i hi => ?_⟩
    · rw [List.foldl_cons]
      simp only
      rw [e1, r1, ee, List.length_append, Nat.add_assoc]
    · simp only [List.map_cons, List.mem_cons] at hi ⊢
      rcases hi with hi | hi | hi
      · exact .inl (.inr hi)
      · exact .inl (.inl hi)
      · exact .inr hi
    · simp only [List.map_cons, List.mem_cons, not_or] at hi
      exact (r3 i hi.2).trans (e3 i hi.1)
theorem fieldF_stuck {l : List Nat} {q : PV} {at' : Nat} {f : Fd} : (fieldF l q at' true f).2.2 = true := by
  have R : ∀ L k a, (rdS l L k a true).2.2 = true := fun L k a => by simp [rdS]
  cases f with
  | num n => exact R (mayL n q.a q.b) 4 at'
  | ids =>
    simp only [fieldF]
    rw [R, R, R, R]
  | sum t =>
    cases h : (fieldF l q at' true (.sum t)).2.2 with
    | true => rfl
    | false => exact absurd (sumF_stuck h) (by simp)
  | dat lo hi t => simp only [fieldF]; rw [R]; simp [tkR]
theorem fold_stuck {l : List Nat} (fs : List Fd) : ∀ s : PV × Nat × Bool, s.2.2 = true → (fs.foldl (fun s f => fieldF l s.1 s.2.1 s.2.2 f) s).2.2 = true := by
  induction fs with
  | nil => exact fun s h => h
  | cons f fs ih => intro s h; rw [List.foldl_cons]; refine ih _ ?_; rw [h]; exact fieldF_stuck
theorem fold_only {l : List Nat} (hb : ∀ x ∈ l, x < 256) (fs : List Fd) : ∀ (S : List Nat) (q : PV) (at' : Nat) (st : Bool), chk S fs = true → q.Ok → at' ≤ l.length → (fs.foldl (fun s f => fieldF l s.1 s.2.1 s.2.2 f) ((q, at', st) : PV × Nat × Bool)).2.2 = false →
    ∃ r, fs.foldl (fun s f => fieldF l s.1 s.2.1 s.2.2 f) ((q, at', st) : PV × Nat × Bool) = (r, at' + (encAll r fs).length, false) ∧ r.Ok ∧ at' + (encAll r fs).length ≤ l.length ∧ sg l at' (encAll r fs).length = encAll r fs ∧ (∀ f ∈ fs, fitF r f = true) ∧ ∀ i, i ∉ fs.map Fd.slot → Eqs r q i := by
  induction fs with
  | nil =>
    intro S q at' st _ hq ha h
    have h : st = false := h
    subst h
    refine ⟨q, rfl, hq, ha, by simp [encAll, sg], fun f hf => absurd hf (by simp), fun i _ => Eqs.refl q i⟩
  | cons f fs ih =>
    intro S q at' st hc hq ha h
    obtain ⟨c1, c2, c3⟩ := chk_cons hc
    rw [List.foldl_cons] at h
    have h1 : (fieldF l q at' st f).2.2 = false := by
      cases e : (fieldF l q at' st f).2.2 with
      | false => rfl
      | true => have := fold_stuck (l := l) fs (fieldF l q at' st f) e; rw [this] at h; cases h
    obtain ⟨f1, f2, f3, f4, f5, f6, f7⟩ := field_only hb hq ha h1
    obtain ⟨r, r1, r2, r3, r4, r5, r6⟩ := ih (f.slot :: S) (fieldF l q at' st f).1 (fieldF l q at' st f).2.1 (fieldF l q at' st f).2.2 c3 f7 (by rw [f3]; exact f2) h
    have hns := chk_apart c3 f.slot (by simp)
    have he : Eqs r (fieldF l q at' st f).1 f.slot := r6 _ hns
    have een : encF r f = encF (fieldF l q at' st f).1 f := encF_eqs he
    have ee : encAll r (f :: fs) = encF r f ++ encAll r fs := by simp [encAll]
    refine ⟨r, ?_, r2, ?_, ?_, fun g hg => ?_, fun i hi => ?_⟩
    · rw [List.foldl_cons, ee, List.length_append, een]
      refine r1.trans ?_
      rw [f3, Nat.add_assoc]
    · rw [ee, List.length_append, een, ← Nat.add_assoc, ← f3]; exact r3
    · rw [ee, List.length_append, ← sg_join, een, f4, ← f3, r4]
    · rcases List.mem_cons.1 hg with rfl | hg
      · refine f5 r he fun i hi => ?_
        have hiS := c2 i hi
        exact (r6 i (chk_apart c3 i (by simp [hiS]))).trans (f6 i fun e => c1 (e ▸ hiS))
      · exact r5 g hg
    · simp only [List.map_cons, List.mem_cons, not_or] at hi
      exact (r6 i hi.2).trans (f6 i hi.1)
/-- THE FIRST USE: a packet's bytes are read back as that packet -/
theorem packet_back {c : Nat} {p : PV} (h1 : 1 ≤ c) (h2 : c ≤ 25) (hp : p.Ok) (hdl : ∀ x ∈ p.dl, x < 256) (h : fitAll p (fdL c) = true) : dErr (c :: encAll p (fdL c)) = 0 ∧ dC (c :: encAll p (fdL c)) = c ∧ dPv (c :: encAll p (fdL c)) = p ∧ dAt (c :: encAll p (fdL c)) = 0 := by
  unfold fitAll at h
  rw [Bool.and_eq_true, List.all_eq_true] at h
  obtain ⟨hfit, hem⟩ := h
  have hbE : ∀ fs : List Fd, ∀ x ∈ encAll p fs, x < 256 := by
    intro fs x hx
    obtain ⟨f, hf, hx⟩ := List.mem_flatMap.1 hx
    cases f with
    | num n => exact be_lt _ _ x hx
    | ids =>
      simp only [encF, List.mem_append] at hx
      rcases hx with ((hx | hx) | hx) | hx
      · exact be_lt _ _ x hx
      · exact be_lt _ _ x hx
      · exact be_lt _ _ x hx
      · exact be_lt _ _ x hx
    | sum t => exact hp.s x hx
    | dat lo hi t =>
      simp only [encF, List.mem_append] at hx
      rcases hx with hx | hx
      · exact be_lt _ _ x hx
      · exact hdl x hx
  have hb : ∀ x ∈ c :: encAll p (fdL c), x < 256 := by
    intro x hx
    rcases List.mem_cons.1 hx with rfl | hx
    · omega
    · exact hbE _ x hx
  have hr : rdS (c :: encAll p (fdL c)) [(1, 25)] 1 0 false = (c, 1, false) := by
    have := rdS_yes (L := [(1, 25)]) (k := 1) (at' := 0) (x := c) hb (by simp) (by simp [sg, be]; omega) (by omega) (by simp [meets]; omega)
    simpa using this
  have hcmd : dCmd (c :: encAll p (fdL c)) = c := by unfold dCmd; rw [hr]
  obtain ⟨r, r1, r2, r3⟩ := fold_back hb hp (fdL c) [] PV.zero 1 (fdL_chk c) (fdL_ok c) hfit (by decide) (fun i hi => by cases hi) (by simp; omega) (by simp [sg])
  have hrp : r = p := Eqs.all fun i _ => by
    by_cases e : i ∈ (fdL c).map Fd.slot
    · exact r2 i (.inr e)
    · have e1 := blanks_other (fdL c) p i e
      rw [empty_zero (blanks_len _ p hp.n) hem] at e1
      exact (r3 i e).trans e1
  have hall : dAll (c :: encAll p (fdL c)) = (p, 1 + (encAll p (fdL c)).length, false) := by
    unfold dAll
    rw [hcmd, hr]
    unfold decS
    rw [List.take_length]
    simp only
    rw [r1, hrp]
  have herr : dErr (c :: encAll p (fdL c)) = 0 := by
    unfold dErr why
    rw [hall]; simp; omega
  refine ⟨herr, by unfold dC; rw [if_pos herr, hcmd], by unfold dPv; rw [if_pos herr, hall], by unfold dAt; rw [if_pos herr]⟩
/-- THE SECOND USE: bytes that are read as a packet are that packet's -/
theorem packet_only {l : List Nat} (hb : ∀ x ∈ l, x < 256) (h : dErr l = 0) : 1 ≤ dC l ∧ dC l ≤ 25 ∧ (dPv l).Ok ∧ (∀ x ∈ (dPv l).dl, x < 256) ∧ fitAll (dPv l) (fdL (dC l)) = true ∧ l = dC l :: encAll (dPv l) (fdL (dC l)) := by
  have hC : dC l = dCmd l := by unfold dC; rw [if_pos h]
  have hP : dPv l = (dAll l).1 := by unfold dPv; rw [if_pos h]
  have hw : (dAll l).2.2 = false ∧ ¬ (dAll l).2.1 < l.length := by
    unfold dErr why at h
    cases e : (dAll l).2.2 with
    | false => rw [e] at h; simp at h; exact ⟨rfl, by omega⟩
    | true => rw [e] at h; simp at h; split at h <;> (try split at h) <;> omega
  rw [hC, hP]
  have hst : (rdS l [(1, 25)] 1 0 false).2.2 = false := by
    cases e : (rdS l [(1, 25)] 1 0 false).2.2 with
    | false => rfl
    | true =>
      have : (dAll l).2.2 = true := by unfold dAll decS; exact fold_stuck _ _ e
      rw [this] at hw; cases hw.1
  obtain ⟨a1, a2, a3, a4, a5⟩ := rdS_only hb (Nat.zero_le _) (by decide) hst
  have hc : 1 ≤ dCmd l ∧ dCmd l ≤ 25 := by
    have : meets [(1, 25)] (dCmd l) (dCmd l) = true := a5
    simp [meets] at this; omega
  have hz : PV.zero.Ok := ⟨by decide, by decide, by decide, by decide, by decide, by decide, by decide, by decide, by decide, by decide, by decide⟩
  have e0 : dAll l = (fdL (dCmd l)).foldl (fun s f => fieldF l s.1 s.2.1 s.2.2 f) ((PV.zero, 1, false) : PV × Nat × Bool) := by
    unfold dAll decS
    rw [List.take_length, a2, hst]
  obtain ⟨r, r1, r2, r3, r4, r5, r6⟩ := fold_only hb (fdL (dCmd l)) [] PV.zero 1 false (fdL_chk _) hz (by omega) (by rw [← e0]; exact hw.1)
  rw [← e0] at r1
  rw [r1] at hw ⊢
  have hlen : l.length = 1 + (encAll r (fdL (dCmd l))).length := by have := hw.2; simp only at this; omega
  have hl : l = dCmd l :: encAll r (fdL (dCmd l)) := by
    have e1 : sg l 0 (1 + (encAll r (fdL (dCmd l))).length) = l := by rw [← hlen]; simp [sg]
    rw [← sg_join, Nat.zero_add, r4, a3] at e1
    have e2 : be (rdS l [(1, 25)] 1 0 false).1 1 = [dCmd l] := by
      show [dCmd l / 256 ^ 0 % 256] = _
      rw [Nat.pow_zero, Nat.div_one, Nat.mod_eq_of_lt (by omega)]
    rw [e2] at e1
    exact e1.symm
  refine ⟨hc.1, hc.2, r2, fun x hx => ?_, ?_, hl⟩
  · by_cases e : 7 ∈ (fdL (dCmd l)).map Fd.slot
    · obtain ⟨f, hf, hs⟩ := List.mem_map.1 e
      cases f with
      | num n => have := bndF_lt n; simp only [Fd.slot] at hs; omega
      | ids => cases hs
      | sum t => cases hs
      | dat lo hi t =>
        refine hb x ?_
        rw [hl]
        refine List.mem_cons_of_mem _ (List.mem_flatMap.2 ⟨_, hf, ?_⟩)
        simp only [encF, List.mem_append]
        exact .inr hx
    · have : r.dl = [] := r6 7 e
      rw [this] at hx; cases hx
  · unfold fitAll
    rw [Bool.and_eq_true, List.all_eq_true]
    refine ⟨r5, ?_⟩
    have : (fdL (dCmd l)).foldl blankF r = PV.zero := Eqs.all fun i _ => by
      by_cases e : i ∈ (fdL (dCmd l)).map Fd.slot
      · exact blanks_slot _ r i e
      · exact (blanks_other _ r i e).trans (r6 i e)
    rw [this]; exact zero_empty
/-! how far a reader gets -/
theorem rdN_far (l : List Nat) (L : List (Nat × Nat)) : ∀ k v at', (rdN l L k v at').2.1 ≤ at' + k ∧ ((rdN l L k v at').2.2 = true → (rdN l L k v at').1 = 0)
  | 0, v, at' => ⟨Nat.le_refl _, fun h => by cases h⟩
  | k + 1, v, at' => by
    rw [rdN]
    split
    · exact ⟨Nat.le_add_right _ _, fun _ => rfl⟩
    · split
      · have := rdN_far l L k (v * 256 + l.getD at' 0) (at' + 1)
        exact ⟨by omega, this.2⟩
      · exact ⟨Nat.le_add_right _ _, fun _ => rfl⟩
theorem rdS_far (l : List Nat) (L : List (Nat × Nat)) (k at' : Nat) (st : Bool) : (rdS l L k at' st).2.1 ≤ at' + k ∧ ((rdS l L k at' st).2.2 = true → (rdS l L k at' st).1 = 0) := by
  cases st with
  | true => simp [rdS]
  | false => exact rdN_far l L k 0 at'
def Fd.cost : Fd → Nat
  | .num _ => 4
  | .ids => 32
  | .sum _ => 32
  | .dat _ hi _ => 2 + hi
theorem sumF_far (l : List Nat) (L : List (Nat × Nat)) (s0 : List Nat) (at' : Nat) (st : Bool) : ∀ k, (sumF l L s0 at' st k).2.1 ≤ at' + k
  | 0 => Nat.le_refl _
  | k + 1 => by
    have h1 := sumF_far l L s0 at' st k
    have h2 := (rdS_far l L 1 (sumF l L s0 at' st k).2.1 (sumF l L s0 at' st k).2.2).1
    show (rdS l L 1 (sumF l L s0 at' st k).2.1 (sumF l L s0 at' st k).2.2).2.1 ≤ _
    omega
theorem field_far {l : List Nat} (hb : ∀ x ∈ l, x < 256) (q : PV) (at' : Nat) (st : Bool) (ha : at' ≤ l.length) (f : Fd) : (fieldF l q at' st f).2.1 ≤ at' + f.cost := by
  cases f with
  | num n => exact (rdS_far l (mayL n q.a q.b) 4 at' st).1
  | ids =>
    simp only [fieldF, Fd.cost]
    have h1 := (rdS_far l [(0, 18446744073709551615)] 8 at' st).1
    generalize rdS l [(0, 18446744073709551615)] 8 at' st = r1 at *
    have h2 := (rdS_far l [(0, 18446744073709551615)] 8 r1.2.1 r1.2.2).1
    generalize rdS l [(0, 18446744073709551615)] 8 r1.2.1 r1.2.2 = r2 at *
    have h3 := (rdS_far l [(0, 18446744073709551615)] 8 r2.2.1 r2.2.2).1
    generalize rdS l [(0, 18446744073709551615)] 8 r2.2.1 r2.2.2 = r3 at *
    have h4 := (rdS_far l [(0, 18446744073709551615)] 8 r3.2.1 r3.2.2).1
    omega
  | sum t => simp only [fieldF, Fd.cost]; exact sumF_far l (smayL t q.e) q.s at' st 32
  | dat lo hi t =>
    simp only [fieldF, Fd.cost]
    have h1 := rdS_far l (dmayL lo hi t q.e) 2 at' st
    cases e : (rdS l (dmayL lo hi t q.e) 2 at' st).2.2 with
    | true => simp only [tkR]; simp; omega
    | false =>
      obtain ⟨r1, r2, r3, r4, r5⟩ := rdS_only hb ha (by decide) e
      have hv : (rdS l (dmayL lo hi t q.e) 2 at' st).1 ≤ hi := by
        unfold meets dmayL at r5
        split at r5 <;> simp only [List.any_cons, List.any_nil, Bool.or_false, Bool.and_eq_true, decide_eq_true_eq] at r5
        · simp only [dmayL]; rename_i e1; rw [if_pos e1]; omega
        · simp only [dmayL]; rename_i e1; rw [if_neg e1]; omega
      simp only [tkR]
      split
      · simp only; omega
      · split
        · simp only; omega
        · simp only; omega
theorem fold_far {l : List Nat} (hb : ∀ x ∈ l, x < 256) (hle : ∀ (p : PV) (f : Fd) at' st, at' ≤ l.length → (fieldF l p at' st f).2.1 ≤ l.length) (fs : List Fd) : ∀ s : PV × Nat × Bool, s.2.1 ≤ l.length → (fs.foldl (fun s f => fieldF l s.1 s.2.1 s.2.2 f) s).2.1 ≤ s.2.1 + (fs.map Fd.cost).sum := by
  induction fs with
  | nil => exact fun s _ => Nat.le_refl _
  | cons f fs ih =>
    intro s hs
    rw [List.foldl_cons, List.map_cons, List.sum_cons]
    have h1 := field_far hb s.1 s.2.1 s.2.2 hs f
    have h2 := ih (fieldF l s.1 s.2.1 s.2.2 f) (hle _ _ _ _ hs)
    omega
theorem fdL_cost (c : Nat) : ((fdL c).map Fd.cost).sum ≤ 1038 := by
  by_cases hc : c ≤ 25
  · rcases (show c = 0 ∨ c = 1 ∨ c = 2 ∨ c = 3 ∨ c = 4 ∨ c = 5 ∨ c = 6 ∨ c = 7 ∨ c = 8 ∨ c = 9 ∨ c = 10 ∨ c = 11 ∨ c = 12 ∨ c = 13 ∨ c = 14 ∨ c = 15 ∨ c = 16 ∨ c = 17 ∨ c = 18 ∨ c = 19 ∨ c = 20 ∨ c = 21 ∨ c = 22 ∨ c = 23 ∨ c = 24 ∨ c = 25 by omega) with rfl | rfl | rfl | rfl | rfl | rfl | rfl | rfl | rfl | rfl | rfl | rfl | rfl | rfl | rfl | rfl | rfl | rfl | rfl | rfl | rfl | rfl | rfl | rfl | rfl | rfl <;> decide
  · have : fdL c = [] := by unfold fdL; rw [List.getD_eq_getElem?_getD, List.getElem?_eq_none (by simp; omega)]; rfl
    rw [this]; simp
theorem dAll_far {l : List Nat} (hb : ∀ x ∈ l, x < 256) (hle : ∀ (p : PV) (f : Fd) at' st, at' ≤ l.length → (fieldF l p at' st f).2.1 ≤ l.length) (h1 : (rdS l [(1, 25)] 1 0 false).2.1 ≤ l.length) : (dAll l).2.1 ≤ 1039 := by
  unfold dAll decS
  rw [List.take_length]
  have h2 := fold_far hb hle (fdL (dCmd l)) (PV.zero, (rdS l [(1, 25)] 1 0 false).2.1, (rdS l [(1, 25)] 1 0 false).2.2) h1
  have h3 := (rdS_far l [(1, 25)] 1 0 false).1
  have h4 := fdL_cost (dCmd l)
  simp only at h2
  omega
theorem dAll_small {l : List Nat} (hb : ∀ x ∈ l, x < 256) : (dAll l).2.1 ≤ 1039 := dAll_far hb (fun p f at' st h => (fieldF_good p f).le l at' st h) ((rdS_good [(1, 25)] 0).le l 0 false (Nat.zero_le _))
theorem dAt_small {l : List Nat} (hb : ∀ x ∈ l, x < 256) : dAt l ≤ 1039 := by
  unfold dAt
  split
  · omega
  · exact dAll_small hb
theorem len_small {l : List Nat} (hb : ∀ x ∈ l, x < 256) (h : dErr l = 0) : l.length ≤ 1039 := by
  have := dAll_small hb
  rcases dErr_cases l with c | c | c | c | c
  · rw [c.2] at this; exact this
  · omega
  · omega
  · omega
  · omega
end Go.Proofs.YtcjilmafdpnfeaaDoor
namespace Go.Proofs.YtcjilmafdpnfeaaDoor
open Go.RowKit
set_option linter.unusedVariables false
set_option linter.unusedSimpArgs false
set_option maxRecDepth 20000

theorem FL.shape {w : World} {v : Value} {fs : List Fd} (h : FL w v (fs.map Fd.val)) : ∃ aa, v = .slice aa fs.length fs.length := by
  rcases FL.at h with ⟨rfl, rfl⟩ | ⟨b, rfl, _⟩
  · exact ⟨none, rfl⟩
  · exact ⟨_, rfl⟩
/-- what DecodePacket says, and that what it hands out lies in a block that is there -/
def DecF (w : World) (l : List Nat) (e : Ending) (w' : World) : Prop := ∃ v', e = .returned (.tuple #[pkV (dC l) (dPv l) v', .int .i64 (dAt l : Nat), .int .i64 (dErr l : Nat)]) ∧ BSl w' v' (dPv l).dl ∧ Below w.heap.size w w' ∧ ∀ g, v'.ownBlock = some g → g < w'.heap.size
/-- what DecodePacket says; the bytes that it hands out are its own -/
def DecO (w : World) (l : List Nat) (e : Ending) (w' : World) : Prop := ∃ v', e = .returned (.tuple #[pkV (dC l) (dPv l) v', .int .i64 (dAt l : Nat), .int .i64 (dErr l : Nat)]) ∧ Own w' w.heap.size v' (dPv l).dl ∧ Below w.heap.size w w'
set_option maxHeartbeats 2000000 in
theorem decO_full (w : World) (b off cap : Nat) (l : List Nat) (hbw : b < w.heap.size) (h1 : l.length ≤ cap) (h2 : cap ≤ maxLen) (hb : ∀ x ∈ l, x < 256) (hd : ∀ i, i < l.length → w.cell? ⟨b, off + i, none⟩ = some (.int .u8 (l.getD i 0 : Nat))) (hT : BTab w) :
    Calls Tryd.prog 5 #[.slice (some ⟨b, off, none⟩) l.length cap] w fun e' w' => DecO w l e' w' := by
  obtain ⟨x0, hx0⟩ : ∃ x, x = w.alloc (.cells zPk 30) := ⟨_, rfl⟩
  have s0 : x0.heap.size = w.heap.size + 1 := by rw [hx0]; simp
  have hb0 : Below w.heap.size w x0 := by rw [hx0]; exact (Below.refl w.heap.size w).alloc (Nat.le_refl _) _
  have hq0 : x0.heap[w.heap.size]? = some (.cells zPk 30 (0, 0)) := by rw [hx0]; exact Go.heap_alloc_new w _
  have hT0 : BTab x0 := hT.below hb0
  obtain ⟨x1, hx1⟩ : ∃ x, x = x0.alloc (.cells #[.slice (some ⟨b, off, none⟩) l.length cap, .int .i64 0, .bool false] 41) := ⟨_, rfl⟩
  have s1 : x1.heap.size = w.heap.size + 1 + 1 := by rw [hx1]; simp [s0]
  have hb1 : Below x0.heap.size x0 x1 := by rw [hx1]; exact (Below.refl x0.heap.size x0).alloc (Nat.le_refl _) _
  have hrd1 : Rd x1 (w.heap.size + 1) b off cap l 0 false := by
    refine ⟨by rw [hx1, ← s0]; exact Go.heap_alloc_new x0 _, h1, h2, hb, fun i hi => ?_, by omega⟩
    exact ((hb0.trans (hb1.mono (by omega))).cell (p := ⟨b, off + i, none⟩) hbw).trans (hd i hi)
  obtain ⟨x2, hx2⟩ : ∃ x, x = x1.alloc (.cells #[.int .u64 1, .int .u64 25] 44) := ⟨_, rfl⟩
  have hb2 : Below x1.heap.size x1 x2 := by rw [hx2]; exact (Below.refl x1.heap.size x1).alloc (Nat.le_refl _) _
  have hsp : SpL x2 (.slice (some ⟨w.heap.size + 1 + 1, 0, none⟩) 1 1) [(1, 25)] := by rw [hx2, ← s1]; exact SpL.one (w := x1) 1 25 (by decide) (by decide) 44
  have HN := hide (number_all x2 (w.heap.size + 1) b off cap 0 1 l [(1, 25)] _ false (hrd1.below hb2) hsp (by simp only [Value.ownBlock, ne_eq, Option.some.injEq]; omega) (by decide) (by decide) (Nat.zero_le _))
  have HX : Hid ((rdS l [(1, 25)] 1 0 false).1 ≤ 25) := hide (dCmd_le l)
  have HLE := hide (rdS_le (l := l) (L := [(1, 25)]) (k := 1) (at' := 0) (stuck := false) (Nat.zero_le _)).2
  have HDA : Hid (dAll l = decS l (fdL (rdS l [(1, 25)] 1 0 false).1) (fdL (rdS l [(1, 25)] 1 0 false).1).length PV.zero (rdS l [(1, 25)] 1 0 false).2.1 (rdS l [(1, 25)] 1 0 false).2.2) := hide rfl
  have HDC : Hid (dCmd l = (rdS l [(1, 25)] 1 0 false).1) := hide rfl
  have HST : Hid ((rdS l [(1, 25)] 1 0 false).2.2 = true → (rdS l [(1, 25)] 1 0 false).1 = 0) := hide fun h => dCmd_stuck h
  have HGO : Hid ((rdS l [(1, 25)] 1 0 false).2.2 = false → 1 ≤ (rdS l [(1, 25)] 1 0 false).1) := hide fun h => dCmd_go h
  have HB2 : Hid (Below x0.heap.size x0 x2) := hide (hb1.trans (hb2.mono hb1.size))
  generalize hr : rdS l [(1, 25)] 1 0 false = r at *
  obtain ⟨c, at0, st0⟩ := r
  simp only at *
  have hwx : IntKind.i64.wrap ((c : Nat) : Int) = ((c : Nat) : Int) := by have := HX.out; simp [IntKind.wrap, IntKind.bits, IntKind.signed]; omega
  clear hr hsp hrd1 hd
  rw [hx1, hx0] at hx2
  have HXX := hide hx2
  have HDSB : Hid (∀ x3, Rd x3 (w.heap.size + 1) b off cap l at0 st0 → Oth (w.heap.size + 1) x2 x3 → DS x0 (x3.alloc (.cells zParts 49)) x0.heap.size x0.heap.size x3.heap.size b off cap l at0 st0 PV.zero (.slice none 0 0)) := hide fun x3 hr3 ho3 => by
    refine ds_begin hT0 (by omega) (by rw [s0]; exact hr3) ?_ HLE.out
    have hbb := HB2.out
    exact ⟨ho3.os.trans hbb.os, ho3.tape.trans hbb.tape, ho3.output.trans hbb.output, Nat.le_trans hbb.size ho3.size, fun j hj => (ho3.block j (Nat.lt_of_lt_of_le hj hbb.size) (by omega)).trans (hbb.block j hj)⟩
  have S0 := hide s0
  have Q0 := hide hq0
  have B0 := hide hb0
  clear hx0 hx1 hx2 hb0 hb1 hb2 s0 s1 hq0 HB2 hT hT0
  go_enter Tryd.func5, Tryd.ntmps5
  go_wp2_with fail
  have HN3 : Hid (∀ y, y = x2 → Calls Tryd.prog 12 #[.pointer (some ⟨w.heap.size + 1, 0, none⟩), .int .i64 1, .slice (some ⟨w.heap.size + 1 + 1, 0, none⟩) 1 1] y fun e' w' => e' = .returned (.int .u64 (c : Nat)) ∧ Rd w' (w.heap.size + 1) b off cap l at0 st0 ∧ Oth (w.heap.size + 1) x2 w') := hide fun y hy => by rw [hy]; exact HN.out
  refine (HN3.out _ HXX.out.symm).mono ?_
  rintro e' x3 ⟨rfl, hr3, ho3⟩
  have HD := hide (HDSB.out x3 hr3 ho3)
  have HCA := hide (carried_any (x3.alloc (.cells zParts 49)) c HX.out)
  clear hr3 ho3 HN HN3 HXX HDSB
  go_wp2_with (go_at_call 13; refine HCA.out.mono ?_; rintro e' x5 ⟨fv, rfl, hfl, hb5⟩; have HD5 := hide (HD.out.below hb5); rw [fldL_fdL c HX.out] at hfl; have HFL := hide hfl; obtain ⟨aa, hfv⟩ := FL.shape hfl; subst hfv; clear hfl hb5 HCA HD)
  have HOK := hide (fdL_ok c)
  have HLEN := fdL_len c
  have HNE := hide (fdL_ne c)
  generalize hfs : fdL c = fs at *
  obtain ⟨pb, hpb⟩ : ∃ pb, pb = x3.heap.size := ⟨_, rfl⟩
  rw [← hpb] at HD5 ⊢
  have HD5' : Hid (DS x0 x5 x0.heap.size (w.heap.size + 1) pb b off cap l at0 st0 PV.zero (.slice none 0 0)) := hide (by have := HD5.out; rw [S0.out] at this; rw [S0.out]; exact this)
  clear HD5 hpb hfs
  have HD6 := hide HD5'.out.rebase
  have HQ5 : Hid (x5.heap[w.heap.size]? = some (.cells zPk 30 (0, 0))) := hide (by
    have h6 := HD5'.out.hB
    have h7 := S0.out
    exact (HD5'.out.bel.block w.heap.size (by omega) (by omega) (by omega)).trans Q0.out)
  have HB5 : Hid (Below w.heap.size w x5) := hide (by
    have h6 := HD5'.out.hB
    have h7 := S0.out
    have hbb := HD5'.out.bel
    exact ⟨hbb.os.trans B0.out.os, hbb.tape.trans B0.out.tape, hbb.output.trans B0.out.output, Nat.le_trans B0.out.size hbb.size, fun j hj => (hbb.block j (by omega) (by omega) (by omega)).trans (B0.out.block j hj)⟩)
  have HPB : Hid (w.heap.size < pb ∧ w.heap.size < x5.heap.size) := hide (by have h6 := HD5'.out.hB; have h7 := S0.out; exact ⟨by omega, by omega⟩)
  have HFC : Hid (∀ wr, Ot2 (w.heap.size + 1) pb x5 wr → ∀ b', aa = some ⟨b', 0, none⟩ → ∀ k f, fs[k]? = some f → wr.cell? ⟨b', k, none⟩ = some f.val) := hide fun wr ho b' hbb' k f hk => by
    rcases HFL.out with ⟨e, _⟩ | ⟨b2, e, hrow⟩
    · have : fs = [] := by simpa using e
      subst this; simp at hk
    · rw [hbb'] at e
      simp at e
      subst e
      have n1 : b' ≠ w.heap.size + 1 := fun e => by
        have := HD6.out.rd.row; rw [← e, hrow] at this; simp at this
      have n2 : b' ≠ pb := fun e => by
        have := HD6.out.pm.row; rw [← e, hrow] at this; simp at this
      rw [World.cell?_of_block (ho.block b' (Array.getElem?_eq_some_iff.1 hrow).1 n1 n2), cell_of_row _ _ _ _ _ _ hrow]
      simp [hk]
  have HAA : Hid (0 < fs.length → ∃ b', aa = some ⟨b', 0, none⟩) := hide fun h0 => by
    rcases FL.at HFL.out with ⟨e, _⟩ | ⟨b2, e, _⟩
    · subst e; simp at h0
    · simp at e; exact ⟨b2, e⟩
  clear HD5' HFL HNE
  go_loopw [20] (fun i wr => ∃ (k : Nat) (v' : Value), k ≤ fs.length ∧ i = .int .i64 k ∧ DS x5 wr x0.heap.size (w.heap.size + 1) pb b off cap l (decS l fs k PV.zero at0 st0).2.1 (decS l fs k PV.zero at0 st0).2.2 (decS l fs k PV.zero at0 st0).1 v') (fun i _ => fs.length - (intOf i).toNat)
  case atStart => exact ⟨0, _, Nat.zero_le _, rfl, HD6.out⟩
  case round =>
    obtain ⟨k, v', hk, rfl, hds⟩ := hrel
    have HDK := hide hds
    clear hds HD6
    by_cases hlt : k < fs.length
    · obtain ⟨f, hf⟩ : ∃ f, fs[k]? = some f := ⟨_, List.getElem?_eq_getElem hlt⟩
      obtain ⟨b', hbb'⟩ := HAA.out (by omega)
      subst hbb'
      have hcell := HFC.out _ HDK.out.bel b' rfl k f hf
      have HSC := hide (decS_succ (l := l) hf PV.zero at0 st0)
      have HFS := hide (field_all (HOK.out f (List.mem_of_getElem? hf)) x5 wr x0.heap.size (w.heap.size + 1) pb b off cap l _ _ _ v' HDK.out)
      rw [← HSC.out] at HFS
      clear hf HSC
      generalize f.val = fvv at *
      go_wp2_with (go_at_call 14; refine HFS.out.mono ?_; rintro e' y ⟨rfl, v2, hd2⟩; have HD2 := hide hd2; clear hd2 HFS)
      go_roundw
      case rel => exact ⟨k + 1, v2, by omega, by go_num, HD2.out⟩
      case measure => simp [intOf]; omega
    · obtain rfl : k = fs.length := by omega
      rw [← HDA.out] at HDK
      generalize hda : dAll l = D at *
      obtain ⟨pv, at1, st1⟩ := D
      simp only at HDK
      have HRS := hide (reason_any wr (w.heap.size + 1) _ l.length cap at1 st1 HDK.out.rd.cells.1 HDK.out.rd.cells.2.1 HDK.out.rd.cells.2.2.1 HDK.out.rd.h1 HDK.out.rd.h2 HDK.out.at_)
      have HER : Hid (dErr l = why l.length at1 st1) := hide (by unfold dErr; rw [hda])
      have HDA2 := hide hda
      clear hda HDA
      generalize why l.length at1 st1 = er at *
      by_cases her : er = 0
      · subst her
        have HF1 : Hid (dC l = c ∧ dPv l = pv ∧ dAt l = 0) := hide (by
          have h9 : dErr l = 0 := HER.out
          exact ⟨by unfold dC; rw [if_pos h9, HDC.out], by unfold dPv; rw [if_pos h9, HDA2.out], by unfold dAt; rw [if_pos h9]⟩)
        obtain ⟨da, dc, hv', _, _, _, _, _⟩ := id HDK.out.pm.dat
        generalize pv.dl.length = dn at hv'
        subst hv'
        have HPK := hide fun z (hz : DS x5 z x0.heap.size (w.heap.size + 1) pb b off cap l at1 st1 pv (.slice da dn dc)) => packet_any z c pb pv da dn dc hz.pm
        have HK1 : Hid ((Tryd.prog.info? 30).map (·.size) = some (.int .i64 (c : Int) :: pv.row (.slice da dn dc)).toArray.size) := hide (by rw [List.size_toArray, List.length_cons, row_len HDK.out.pm.ok.n]; exact infoK)
        have HK2 : Hid (zPk.size = (.int .i64 (c : Int) :: pv.row (.slice da dn dc)).toArray.size) := hide (by show 43 = _; rw [List.size_toArray, List.length_cons, row_len HDK.out.pm.ok.n])
        have HK3 : Hid ((.int .i64 (c : Int) :: pv.row (.slice da dn dc)).toArray.all (·.oneCell') = true) := hide (by
          have := row_all pv (.slice da dn dc) rfl
          rw [Array.all_eq_true_iff_forall_mem] at this ⊢
          intro x hx
          rw [List.mem_toArray, List.mem_cons] at hx
          rcases hx with rfl | hx
          · rfl
          · exact this x (by rw [List.mem_toArray]; exact hx))
        have HPV : Hid (pkV (c : Int) pv (.slice da dn dc) = .agg (.int .i64 (c : Int) :: pv.row (.slice da dn dc)).toArray) := hide rfl
        unfold pkV at HPK
        generalize hcs : (.int .i64 (c : Int) :: pv.row (.slice da dn dc)).toArray = CS at *
        clear hcs
        go_wp2_with (first
          | (go_at_call 15; refine HRS.out.mono ?_; rintro e' y ⟨rfl, hb6, hh6⟩; have HD7 := hide (HDK.out.below hb6); clear hb6 hh6 HRS)
          | (go_at_call 16; refine (HPK.out _ HD7.out).mono ?_; rintro e' y8 ⟨rfl, hb8⟩; have HD8 := hide (HD7.out.below hb8); have HQ8 : Hid (y8.heap[w.heap.size]? = some (.cells zPk 30 (0, 0))) := hide ((HD8.out.bel.block w.heap.size HPB.out.2 (by omega) (by have := HPB.out.1; omega)).trans HQ5.out); clear hb8 HPK)
          | (refine wpList_store_row rfl 30 (.tmp 2) (.tmp 35) rfl w.heap.size CS (by first | rfl | simp [Act.eval, Act.put]) (by first | rfl | simp [Act.eval, Act.put]) 30 zPk HQ8.out HK1.out HK2.out HK3.out ?_))
        have hb8 : Below w.heap.size w y8 := by
          have hbb := HD8.out.bel
          have h8 := HPB.out
          exact ⟨hbb.os.trans HB5.out.os, hbb.tape.trans HB5.out.tape, hbb.output.trans HB5.out.output, Nat.le_trans HB5.out.size hbb.size, fun j hj => (hbb.block j (by omega) (by omega) (by omega)).trans (HB5.out.block j hj)⟩
        have HB9 : Below w.heap.size w (y8.setRow w.heap.size CS) := by
          refine ⟨hb8.os, hb8.tape, hb8.output, by simp [World.setRow]; exact hb8.size, fun j hj => ?_⟩
          rw [setRow_other _ _ _ _ (by omega)]; exact hb8.block j hj
        have HR9 : (y8.setRow w.heap.size CS).heap[w.heap.size]? = some (.cells CS 30 (0, 0)) := setRow_heap _ _ zPk _ 30 _ HQ8.out
        have HBS : Own (y8.setRow w.heap.size CS) w.heap.size (.slice da dn dc) pv.dl := (HD8.out.ow.low (by have := S0.out; omega)).stayD fun g hg => setRow_other _ _ _ _ (by
          have := (HD8.out.vn g hg).1
          have := S0.out
          omega)
        refine bodyPost_ret (results_row_tmp2 (p := 2) (u := 3) (v := 4) rfl _ _ w.heap.size 30 CS (0, 0) _ (by kernel_rfl) HR9 Tryd.underlying30 rfl HK1.out) rfl ⟨.slice da dn dc, ?_, ?_, HB9⟩
        · rw [HF1.out.1, HF1.out.2.1, HF1.out.2.2, HER.out, HPV.out]; rfl
        · rw [HF1.out.2.1]; exact HBS
      · have hne : ((er : Int) != 0) = true := by simp only [bne_iff_ne]; omega
        go_wp2_with (go_at_call 15; refine HRS.out.mono ?_; rintro e' y ⟨rfl, hb6, hh6⟩; have HD7 := hide (HDK.out.below hb6); clear hb6 hh6 HRS)
        have hq7 : y.heap[w.heap.size]? = some (.cells zPk 30 (0, 0)) := (HD7.out.bel.block w.heap.size HPB.out.2 (by omega) (by have := HPB.out.1; omega)).trans HQ5.out
        have ha7 := HD7.out.rd.cells.2.1
        have hb7 : Below w.heap.size w y := by
          have hbb := HD7.out.bel
          have h8 := HPB.out
          exact ⟨hbb.os.trans HB5.out.os, hbb.tape.trans HB5.out.tape, hbb.output.trans HB5.out.output, Nat.le_trans HB5.out.size hbb.size, fun j hj => (hbb.block j (by omega) (by omega) (by omega)).trans (HB5.out.block j hj)⟩
        have HF1 : Hid (dC l = 0 ∧ dPv l = PV.zero ∧ dAt l = at1) := hide (by
          have h9 : ¬ dErr l = 0 := by rw [HER.out]; exact her
          exact ⟨by unfold dC; rw [if_neg h9], by unfold dPv; rw [if_neg h9], by unfold dAt; rw [if_neg h9, HDA2.out]⟩)
        refine wp_region_held_drew (S := fun z => z.cell? ⟨w.heap.size + 1, 1, none⟩ = some (.int .i64 (at1 : Int))) (by kernel_rfl) ha7 (fun hHeld => ?_)
        refine wpAnyH_take (i := 0) (v := .agg zPk) rfl (by kernel_rfl) (by kernel_rfl) (by kernel_rfl) (fun _ _ _ h => h) ?hy0 hHeld ?_
        case hy0 =>
          refine yieldsIf_build ?hya 30 _ rfl zPk ?hyd
          case hya => kernel_rfl
          case hyd => kernel_rfl
        (try simp only [Act.put, List.setIfInBounds_toArray, List.set_cons_zero, List.set_cons_succ])
        refine wpAnyH_take (i := 1) (v := ?v1) rfl (by kernel_rfl) (by kernel_rfl) (by kernel_rfl) (fun _ _ _ h => h) (Or.inl ⟨by rfl, ?h1⟩) hHeld ?r1
        case h1 => intro w' hSw; go_simp; (try with_reducible rfl)
        (try simp only [Act.put, List.setIfInBounds_toArray, List.set_cons_zero, List.set_cons_succ])
        refine wpAnyH_take (i := 2) (v := .int .i64 (at1 : Int)) rfl (by kernel_rfl) (by kernel_rfl) (by kernel_rfl) (fun _ _ _ h => h) (Or.inl ⟨by rfl, ?h2⟩) hHeld ?r2
        case h2 => intro w' hSw; go_simp; (try with_reducible rfl)
        (try simp only [Act.put, List.setIfInBounds_toArray, List.set_cons_zero, List.set_cons_succ])
        refine wpAnyH_take (i := 3) (v := ?v3) rfl (by kernel_rfl) (by kernel_rfl) (by kernel_rfl) (fun _ _ _ h => h) (Or.inl ⟨by rfl, ?h3⟩) hHeld ?r3
        case h3 => intro w' hSw; go_simp; (try with_reducible rfl)
        (try simp only [Act.put, List.setIfInBounds_toArray, List.set_cons_zero, List.set_cons_succ])
        have HB8 : Below w.heap.size w (y.drew.setRow w.heap.size zPk) := by
          refine ⟨hb7.os, hb7.tape, hb7.output, by simp [World.setRow]; exact hb7.size, fun j hj => ?_⟩
          rw [setRow_other _ _ _ _ (by omega)]; exact hb7.block j hj
        have HR8 : (y.drew.setRow w.heap.size zPk).heap[w.heap.size]? = some (.cells zPk 30 (0, 0)) := setRow_heap _ _ zPk _ 30 _ hq7
        have HS8 : (y.drew.setRow w.heap.size zPk).cell? ⟨w.heap.size + 1, 1, none⟩ = some (.int .i64 (at1 : Int)) := by
          rw [World.cell?_of_block (show (y.drew.setRow w.heap.size zPk).heap[w.heap.size + 1]? = y.heap[w.heap.size + 1]? from setRow_other _ _ _ _ (by omega))]; exact ha7
        refine wpAnyH_ready (rs := [4]) (by kernel_rfl) (by simp) ?_
        refine AllReadyH.one_store (o := ?o) ?ho ?hw 30 (.tmp 2) (.tmp 30) ?hop ?hdst w.heap.size zPk ?hx ?hy 30 zPk hq7 infoK rfl (by kernel_rfl) HS8 ?h
        case ho => exact rfl
        case hw => kernel_rfl
        case hop => kernel_rfl
        case hdst => kernel_rfl
        case hx => kernel_rfl
        case hy => kernel_rfl
        case h =>
          intro W2 hW2
          have hHeld2 := HS8
          rw [← hW2] at HB8 HR8 hHeld2
          clear hW2 HS8
          refine wpAnyH_take (i := 5) (v := ?v5) rfl (by kernel_rfl) (by kernel_rfl) (by kernel_rfl) (fun _ _ _ h => h) (Or.inl ⟨by rfl, ?h5⟩) hHeld2 ?r5
          case h5 => intro w' hSw; go_simp; (try with_reducible rfl)
          (try simp only [Act.put, List.setIfInBounds_toArray, List.set_cons_zero, List.set_cons_succ])
          refine wpAnyH_take (i := 6) (v := ?v6) rfl (by kernel_rfl) (by kernel_rfl) (by kernel_rfl) (fun _ _ _ h => h) (Or.inl ⟨by rfl, ?h6⟩) hHeld2 ?r6
          case h6 => intro w' hSw; go_simp; (try with_reducible rfl)
          (try simp only [Act.put, List.setIfInBounds_toArray, List.set_cons_zero, List.set_cons_succ])
          refine wpAnyH_done ?hr ?hq _
          case hr => kernel_rfl
          case hq =>
            refine q_eq (B := { tmps := #[.slice (some ⟨b, off, none⟩) l.length cap, undef, .pointer (some ⟨w.heap.size, 0, none⟩), .int .i64 (at1 : Int), .int .i64 (er : Int), .pointer (some ⟨w.heap.size + 1, 0, none⟩), .int .i64 (c : Int), .pointer (some ⟨pb, 0, none⟩), undef, u9, .int .i64 (er : Int), .slice (some ⟨b, off, none⟩) l.length cap, .agg #[.slice (some ⟨b, off, none⟩) l.length cap, .int .i64 0, .bool false], .agg #[.int .u64 1, .int .u64 25], .slice (some ⟨w.heap.size + 1 + 1, 0, none⟩) 1 1, .int .u64 (c : Int), .int .i64 (c : Int), .int .i64 (c : Int), .slice aa fs.length fs.length, .int .i64 (fs.length : Int), .int .i64 (fs.length : Int), .bool false, u22, u23, u24, u25, u26, .int .i64 (er : Int), .int .i64 (er : Int), .bool true, .agg zPk, .pointer (some ⟨w.heap.size + 1, 1, none⟩), .int .i64 (at1 : Int), .int .i64 (er : Int), undef, undef], defers := [] }) (by kernel_rfl) ?_
            go_wp2_with fail
            refine bodyPost_ret (results_row_tmp2 (p := 2) (u := 3) (v := 4) rfl _ _ w.heap.size 30 zPk (0, 0) _ (by kernel_rfl) HR8 Tryd.underlying30 rfl infoK) rfl ⟨.slice none 0 0, ?_, ?_, HB8⟩
            · rw [HF1.out.1, HF1.out.2.1, HF1.out.2.2, HER.out]; rfl
            · rw [HF1.out.2.1]; exact ⟨World.ownsRow_nil _ _ _ _, by simp [PV.zero]⟩
theorem decP_full (w : World) (b off cap : Nat) (l : List Nat) (hbw : b < w.heap.size) (h1 : l.length ≤ cap) (h2 : cap ≤ maxLen) (hb : ∀ x ∈ l, x < 256) (hd : ∀ i, i < l.length → w.cell? ⟨b, off + i, none⟩ = some (.int .u8 (l.getD i 0 : Nat))) (hT : BTab w) :
    Calls Tryd.prog 5 #[.slice (some ⟨b, off, none⟩) l.length cap] w fun e' w' => DecF w l e' w' := (decO_full w b off cap l hbw h1 h2 hb hd hT).mono fun e' w' ⟨v', h1, h2, h3⟩ => ⟨v', h1, h2.bsl, h3, fun g hg => (h2.block hg).2⟩
theorem decP_at (w : World) (b off cap : Nat) (l : List Nat) (hbw : b < w.heap.size) (h1 : l.length ≤ cap) (h2 : cap ≤ maxLen) (hb : ∀ x ∈ l, x < 256) (hd : ∀ i, i < l.length → w.cell? ⟨b, off + i, none⟩ = some (.int .u8 (l.getD i 0 : Nat))) (hT : BTab w) :
    Calls Tryd.prog 5 #[.slice (some ⟨b, off, none⟩) l.length cap] w fun e' w' => DecP w l e' w' := (decP_full w b off cap l hbw h1 h2 hb hd hT).mono fun e' w' ⟨v', h1, h2, h3, _⟩ => ⟨v', h1, h2, h3⟩
theorem decP_some (w : World) (b off cap : Nat) (l : List Nat) (hl : 0 < l.length) (h1 : l.length ≤ cap) (h2 : cap ≤ maxLen) (hb : ∀ x ∈ l, x < 256) (hd : ∀ i, i < l.length → w.cell? ⟨b, off + i, none⟩ = some (.int .u8 (l.getD i 0 : Nat))) (hT : BTab w) :
    Calls Tryd.prog 5 #[.slice (some ⟨b, off, none⟩) l.length cap] w fun e' w' => DecP w l e' w' := decP_at w b off cap l (World.block_lt_of_cell? w _ (hd 0 hl)) h1 h2 hb hd hT
end Go.Proofs.YtcjilmafdpnfeaaDoor
namespace Go.Proofs.YtcjilmafdpnfeaaDoor
open Go.RowKit
set_option linter.unusedVariables false
set_option linter.unusedSimpArgs false
set_option maxRecDepth 20000

set_option maxHeartbeats 4000000 in
theorem samePacket_eq (w : World) (c : Int) (p q : PV) (v1 v2 : Value) (hp : p.Ok) (h1 : BSl w v1 p.dl) (h2 : BSl w v2 p.dl) (hq : q = { p with dl := q.dl }) (hdl : q.dl = p.dl) :
    Calls Tryd.prog 11 #[pkV c p v1, pkV c q v2] w fun e' w' => e' = .returned (.bool true) ∧ Below w.heap.size w w' := by
  obtain rfl : q = p := by rw [hq, hdl]
  obtain ⟨a1, c1, rfl, _⟩ := id h1
  obtain ⟨a2, c2, rfl, _⟩ := id h2
  obtain ⟨x0, hx0⟩ : ∃ x, x = w.alloc (.cells (.int .i64 c :: q.row (.slice a1 q.dl.length c1)).toArray 30) := ⟨_, rfl⟩
  obtain ⟨x1, hx1⟩ : ∃ x, x = x0.alloc (.cells (.int .i64 c :: q.row (.slice a2 q.dl.length c2)).toArray 30) := ⟨_, rfl⟩
  have s0 : x0.heap.size = w.heap.size + 1 := by rw [hx0]; simp
  have b0 : Below w.heap.size w x0 := by rw [hx0]; exact (Below.refl w.heap.size w).alloc (Nat.le_refl _) _
  have b1 : Below x0.heap.size x0 x1 := by rw [hx1]; exact (Below.refl x0.heap.size x0).alloc (Nat.le_refl _) _
  have K1 : KM x1 w.heap.size c q (.slice a1 q.dl.length c1) := (KM.mk (by rw [hx0]; exact Go.heap_alloc_new w _) hp : KM x0 w.heap.size c q (.slice a1 q.dl.length c1)).below b1
  have K2 : KM x1 (w.heap.size + 1) c q (.slice a2 q.dl.length c2) := ⟨by rw [hx1, ← s0]; exact Go.heap_alloc_new x0 _, hp⟩
  have HB1 := hide (b0.trans (b1.mono (by omega)))
  have HK1 := hide K1
  have HK2 := hide K2
  have HSM := hide fun y (hb : Below x1.heap.size x1 y) => same_eq (.slice a1 q.dl.length c1) (.slice a2 q.dl.length c2) q.dl y (h1.below (HB1.out.trans (hb.mono HB1.out.size))) (h2.below (HB1.out.trans (hb.mono HB1.out.size)))
  have HN := hide hp.n
  obtain ⟨e0, e1, e2, e3, e4, e5, e6, e7, e8, e9⟩ := K1.cells
  obtain ⟨f0, f1, f2, f3, f4, f5, f6, f7, f8, f9⟩ := K2.cells
  have ed := K1.dat
  have fd := K2.dat
  obtain ⟨x2, hx2⟩ : ∃ x, x1.alloc (.cells #[.int .u64 (q.g0 : Int), .int .u64 (q.g1 : Int), .int .u64 (q.g2 : Int), .int .u64 (q.g3 : Int)] 27) = x := ⟨_, rfl⟩
  obtain ⟨x3, hx3⟩ : ∃ x, x2.alloc (.cells #[.int .u64 (q.g0 : Int), .int .u64 (q.g1 : Int), .int .u64 (q.g2 : Int), .int .u64 (q.g3 : Int)] 27) = x := ⟨_, rfl⟩
  have b2 : Below x1.heap.size x1 x2 := by rw [← hx2]; exact (Below.refl x1.heap.size x1).alloc (Nat.le_refl _) _
  have b3 : Below x2.heap.size x2 x3 := by rw [← hx3]; exact (Below.refl x2.heap.size x2).alloc (Nat.le_refl _) _
  have s2 : x2.heap.size = x1.heap.size + 1 := by rw [← hx2]; simp
  have HB3 := hide (b2.trans (b3.mono b2.size))
  obtain ⟨i0, i1, i2, i3, i4, i5, i6, i7, i8, i9⟩ := (K2.below b2).cells
  have ed3 := (K1.below HB3.out).dat
  have fd3 := (K2.below HB3.out).dat
  have r1 : x2.heap[x1.heap.size]? = some (.cells #[.int .u64 (q.g0 : Int), .int .u64 (q.g1 : Int), .int .u64 (q.g2 : Int), .int .u64 (q.g3 : Int)] 27 (0, 0)) := by rw [← hx2]; exact Go.heap_alloc_new x1 _
  have r1' : x3.heap[x1.heap.size]? = some (.cells #[.int .u64 (q.g0 : Int), .int .u64 (q.g1 : Int), .int .u64 (q.g2 : Int), .int .u64 (q.g3 : Int)] 27 (0, 0)) := (b3.block _ (by omega)).trans r1
  have r2 : x3.heap[x2.heap.size]? = some (.cells #[.int .u64 (q.g0 : Int), .int .u64 (q.g1 : Int), .int .u64 (q.g2 : Int), .int .u64 (q.g3 : Int)] 27 (0, 0)) := by rw [← hx3]; exact Go.heap_alloc_new x2 _
  have j0 : x3.cell? ⟨x1.heap.size, 0, none⟩ = some (.int .u64 (q.g0 : Int)) := by rw [cell_of_row _ _ _ _ _ _ r1']; rfl
  have j1 : x3.cell? ⟨x1.heap.size, 1, none⟩ = some (.int .u64 (q.g1 : Int)) := by rw [cell_of_row _ _ _ _ _ _ r1']; rfl
  have j2 : x3.cell? ⟨x1.heap.size, 2, none⟩ = some (.int .u64 (q.g2 : Int)) := by rw [cell_of_row _ _ _ _ _ _ r1']; rfl
  have j3 : x3.cell? ⟨x1.heap.size, 3, none⟩ = some (.int .u64 (q.g3 : Int)) := by rw [cell_of_row _ _ _ _ _ _ r1']; rfl
  have m0 : x3.cell? ⟨x2.heap.size, 0, none⟩ = some (.int .u64 (q.g0 : Int)) := by rw [cell_of_row _ _ _ _ _ _ r2]; rfl
  have m1 : x3.cell? ⟨x2.heap.size, 1, none⟩ = some (.int .u64 (q.g1 : Int)) := by rw [cell_of_row _ _ _ _ _ _ r2]; rfl
  have m2 : x3.cell? ⟨x2.heap.size, 2, none⟩ = some (.int .u64 (q.g2 : Int)) := by rw [cell_of_row _ _ _ _ _ _ r2]; rfl
  have m3 : x3.cell? ⟨x2.heap.size, 3, none⟩ = some (.int .u64 (q.g3 : Int)) := by rw [cell_of_row _ _ _ _ _ _ r2]; rfl
  clear r1 r1' r2 b2 b3 s2
  unfold pkV
  rw [hx0] at hx1
  have HXX := hide hx1
  have hxs := hx1.symm
  generalize hc1 : (.int .i64 c :: q.row (.slice a1 q.dl.length c1)) = L1 at *
  generalize hc2 : (.int .i64 c :: q.row (.slice a2 q.dl.length c2)) = L2 at *
  clear hx0 hx1 s0 b0 b1 K1 K2 hc1 hc2 hq hdl h1 h2
  go_enter Tryd.func11, Tryd.ntmps11
  go_wp2_with fail
  go_loopw [7] (fun i wr => ∃ k n : Nat, k ≤ 32 ∧ i = .int .i64 k ∧ wr = x3.drewN n) (fun i _ => 32 - (intOf i).toNat)
  case atStart => exact ⟨0, 0, by decide, rfl, rfl⟩
  case round =>
    obtain ⟨k, n, hk, rfl, hwr⟩ := hrel
    subst hwr
    by_cases hlt : k < 32
    · have g1 : x3.cell? ⟨w.heap.size, 10 + k, none⟩ = some (.int .u8 ((q.s.getD k 0 : Nat) : Int)) := (HK1.out.below HB3.out).rng k _ (u8L_get (by rw [HN.out]; exact hlt))
      have g2 : x3.cell? ⟨w.heap.size + 1, 10 + k, none⟩ = some (.int .u8 ((q.s.getD k 0 : Nat) : Int)) := (HK2.out.below HB3.out).rng k _ (u8L_get (by rw [HN.out]; exact hlt))
      generalize q.s.getD k 0 = x at *
      have ik : (k : Int) < 32 := by omega
      go_wp2_with fail
      go_quiet (fail)
      go_wp2_with fail
      go_roundw
      case rel => exact ⟨k + 1, _, by omega, by go_num, rfl⟩
      case measure => simp [intOf]; omega
    · obtain rfl : k = 32 := by omega
      have HS3 := hide (HSM.out (x3.drewN n) (HB3.out.trans ⟨rfl, rfl, rfl, Nat.le_refl _, fun _ _ => rfl⟩))
      go_wp2_with (go_at_call 18; refine HS3.out.mono ?_; rintro e' y ⟨rfl, m, hy⟩; subst hy; clear HS3)
      go_ret
      exact ⟨rfl, bel_drewN (HB1.out.trans (HB3.out.mono HB1.out.size)) _⟩
end Go.Proofs.YtcjilmafdpnfeaaDoor
namespace Go.Proofs.YtcjilmafdpnfeaaDoor
open Go.RowKit
set_option linter.unusedVariables false
set_option linter.unusedSimpArgs false
set_option maxRecDepth 20000

theorem list4 {s : List Nat} (h : s.length = 4) : ∃ a b c d : Nat, s = [a, b, c, d] := by
  match s, h with
  | [a, b, c, d], _ => exact ⟨a, b, c, d, rfl⟩
theorem list2 {s : List Nat} (h : s.length = 2) : ∃ a b : Nat, s = [a, b] := by
  match s, h with
  | [a, b], _ => exact ⟨a, b, rfl⟩
/-- what is written is read -/
theorem derr_frm {k a b c d : Nat} {p : List Nat} (hE : ferr k p.length = 0) (ha : a < 4294967296) (hb : b < 4294967296) (hc : c < 4294967296) (hd' : d < 4294967296) (hp : ∀ x ∈ p, x < 256) :
    derr (frm k a b c d (fsum k a b c d p) p) = 0 ∧ dk (frm k a b c d (fsum k a b c d p) p) = k ∧ dw (frm k a b c d (fsum k a b c d p) p) 0 = a ∧ dw (frm k a b c d (fsum k a b c d p) p) 1 = b ∧ dw (frm k a b c d (fsum k a b c d p) p) 2 = c ∧ dw (frm k a b c d (fsum k a b c d p) p) 3 = d ∧ dp (frm k a b c d (fsum k a b c d p) p) = p := by
  obtain ⟨hk1, hk2, hpl⟩ := ferr_zero hE
  have hs := fsum_lt (k := k) (a := a) (b := b) (c := c) (d := d) (p := p) (by omega) hp
  have hfs := fsum_eq k a b c d p
  have va : bv (be a 4) = a := by rw [bv_be]; exact Nat.mod_eq_of_lt (by omega)
  have vb : bv (be b 4) = b := by rw [bv_be]; exact Nat.mod_eq_of_lt (by omega)
  have vc : bv (be c 4) = c := by rw [bv_be]; exact Nat.mod_eq_of_lt (by omega)
  have vd : bv (be d 4) = d := by rw [bv_be]; exact Nat.mod_eq_of_lt (by omega)
  have vs : bv (be (fsum k a b c d p) 4) = fsum k a b c d p := by rw [bv_be]; exact Nat.mod_eq_of_lt (by omega)
  have vn : bv (be p.length 2) = p.length := by rw [bv_be]; exact Nat.mod_eq_of_lt (by omega)
  unfold frm
  have hh : hd k a b c d p.length = [82, 70, k, 1] ++ be a 4 ++ be b 4 ++ be c 4 ++ be d 4 ++ be p.length 2 := rfl
  generalize hfv : fsum k a b c d p = s at *
  obtain ⟨a0, a1, a2, a3, ea⟩ := list4 (be_len a 4)
  obtain ⟨b0, b1, b2, b3, eb⟩ := list4 (be_len b 4)
  obtain ⟨c0, c1, c2, c3, ec⟩ := list4 (be_len c 4)
  obtain ⟨d0, d1, d2, d3, ed⟩ := list4 (be_len d 4)
  obtain ⟨s0, s1, s2, s3, es⟩ := list4 (be_len s 4)
  obtain ⟨n0, n1, en⟩ := list2 (be_len p.length 2)
  rw [ea, eb, ec, ed, en] at hh
  rw [ea] at va
  rw [eb] at vb
  rw [ec] at vc
  rw [ed] at vd
  rw [es] at vs
  rw [en] at vn
  rw [es, hh]
  rw [hh] at hfs
  simp only [List.cons_append, List.nil_append, List.append_assoc] at hfs ⊢
  generalize hB : (82 :: 70 :: k :: 1 :: a0 :: a1 :: a2 :: a3 :: b0 :: b1 :: b2 :: b3 :: c0 :: c1 :: c2 :: c3 :: d0 :: d1 :: d2 :: d3 :: n0 :: n1 :: s0 :: s1 :: s2 :: s3 :: p) = B at *
  have hlen : B.length = 26 + p.length := by rw [← hB]; simp; omega
  have g0 : B.getD 0 0 = 82 := by rw [← hB]; rfl
  have g1 : B.getD 1 0 = 70 := by rw [← hB]; rfl
  have g2 : B.getD 2 0 = k := by rw [← hB]; rfl
  have g3 : B.getD 3 0 = 1 := by rw [← hB]; rfl
  have q20 : sg B 20 2 = [n0, n1] := by rw [← hB]; rfl
  have q22 : sg B 22 4 = [s0, s1, s2, s3] := by rw [← hB]; rfl
  have qt : B.take 22 = 82 :: 70 :: k :: 1 :: a0 :: a1 :: a2 :: a3 :: b0 :: b1 :: b2 :: b3 :: c0 :: c1 :: c2 :: c3 :: d0 :: d1 :: d2 :: d3 :: n0 :: n1 :: [] := by rw [← hB]; rfl
  have qd : B.drop 26 = p := by rw [← hB]; rfl
  have w0 : sg B (4 + 4 * 0) 4 = [a0, a1, a2, a3] := by rw [← hB]; rfl
  have w1 : sg B (4 + 4 * 1) 4 = [b0, b1, b2, b3] := by rw [← hB]; rfl
  have w2 : sg B (4 + 4 * 2) 4 = [c0, c1, c2, c3] := by rw [← hB]; rfl
  have w3 : sg B (4 + 4 * 3) 4 = [d0, d1, d2, d3] := by rw [← hB]; rfl
  have e0 : derr B = 0 := by
    rw [derr_rest (by omega) (by rw [g0, g1, g3]; simp) (by rw [g2, q20, vn]; exact hE), q20, vn, if_neg (by omega), if_neg (by omega), q22, vs, qt, qd, if_neg (by rw [← hfs]; simp)]
  refine ⟨e0, ?_, ?_, ?_, ?_, ?_, ?_⟩
  · unfold dk; rw [if_pos e0, g2]
  · unfold dw; rw [if_pos e0, w0, va]
  · unfold dw; rw [if_pos e0, w1, vb]
  · unfold dw; rw [if_pos e0, w2, vc]
  · unfold dw; rw [if_pos e0, w3, vd]
  · unfold dp; rw [if_pos e0, qd]

/-- the document's first example -/
def exP : PV := { PV.zero with a := 7, b := 300 }
def exL : List Nat := [10, 0, 0, 0, 7, 0, 0, 1, 44]
theorem ex_perr : perr 10 exP = 0 := by kernel_rfl
theorem ex_pbytes : pbytes 10 exP = exL := by kernel_rfl
theorem ex_derr : dErr exL = 0 := by kernel_rfl
theorem ex_dAt : dAt exL = 0 := by kernel_rfl
theorem ex_dC : dC exL = 10 := by kernel_rfl
theorem ex_dPv : dPv exL = exP := by kernel_rfl
theorem exP_ok : exP.Ok := ⟨by decide, by decide, by decide, by decide, by decide, by decide, by decide, by decide, by decide, by decide, by decide⟩
end Go.Proofs.YtcjilmafdpnfeaaDoor
namespace Go.Proofs.YtcjilmafdpnfeaaDoor
open Go.RowKit
set_option linter.unusedVariables false
set_option linter.unusedSimpArgs false
set_option maxRecDepth 20000

def exCS : Array Value := (.int .i64 10 :: exP.row (.slice none 0 0)).toArray
theorem exCS_built : Tryd.prog.built 30 [(0, .int .i64 10), (1, .int .u32 7), (2, .int .u32 300)] = some exCS := by kernel_rfl
theorem exCS_size : (Tryd.prog.info? 30).map (·.size) = some exCS.size := by kernel_rfl
theorem exCS_size2 : zPk.size = exCS.size := by kernel_rfl
theorem exCS_one : exCS.all (·.oneCell') = true := by kernel_rfl
theorem exCS_pk : pkV 10 exP (.slice none 0 0) = .agg exCS := rfl
theorem bsl_lit {w : World} (L : List Nat) (hL : ∀ x ∈ L, x < 256) (hn : L.length ≤ maxLen) (t : TypeId) (fz : Nat × Nat) : BSl (w.alloc (.cells (u8L L).toArray t fz)) (.slice (some ⟨w.heap.size, 0, none⟩) L.length L.length) L := by
  refine ⟨_, L.length, rfl, Nat.le_refl _, hn, (fun e => by cases e), hL, fun _ => ⟨_, 0, rfl, fun i hi => ?_⟩⟩
  rw [cell_of_row _ _ _ _ _ _ (Go.heap_alloc_new w _), List.getElem?_toArray, Nat.zero_add]
  exact u8L_get hi
def ex9 : Array Value := #[.int .u8 10, .int .u8 0, .int .u8 0, .int .u8 0, .int .u8 7, .int .u8 0, .int .u8 0, .int .u8 1, .int .u8 44]
theorem ex9_eq : ex9 = (u8L exL).toArray := rfl
def ex3 : Array Value := #[.int .u8 97, .int .u8 98, .int .u8 99]
theorem ex3_eq : ex3 = (u8L [97, 98, 99]).toArray := rfl
theorem row_all' (c : Int) (p : PV) (v : Value) (hv : v.oneCell' = true) : (.int .i64 c :: p.row v).toArray.all (·.oneCell') = true := by
  have := row_all p v hv
  rw [Array.all_eq_true_iff_forall_mem] at this ⊢
  intro x hx
  rw [List.mem_toArray, List.mem_cons] at hx
  rcases hx with rfl | hx
  · rfl
  · exact this x (by rw [List.mem_toArray]; exact hx)

/-- a whole row loaded under a guard that holds -/
theorem wpList_load_rowW {P : Program} {ops : Array Oper} {rest : List Oper} {o : Oper} {a : Act} {w : World} {Q : Exit → Act → World → Prop} (hw : Region.wanted o (yielded ops a.tmps) = true) (ty : TypeId) (x : Operand) (ho : o.op = .load ty x)
    (g : Nat) (hx : a.eval x = .pointer (some ⟨g, 0, none⟩)) (t : TypeId) (cs : Array Value) (fr : Nat × Nat) (d : TypeDesc) (hg : w.heap[g]? = some (.cells cs t fr))
    (hu : P.underlying ty = some d) (hd : (match d with | .struct _ | .array _ _ => true | _ => false) = true) (hi : (P.info? ty).map (·.size) = some cs.size)
    (h : wpList P ops Q rest (a.put o.dst (.agg cs)) w) : wpList P ops Q (o :: rest) a w :=
  wpList_step fun K hK => by rw [if_pos hw]; exact wp_load_row ty x ho g hx t cs fr d hg hu hd hi (hK _ _ h)
theorem decP_bsl (w : World) (v : Value) (l : List Nat) (h : BSl w v l) (hl : 0 < l.length) (hT : BTab w) : Calls Tryd.prog 5 #[v] w fun e' w' => DecP w l e' w' := by
  obtain ⟨a, cap, rfl, h1, h2, h3, h4, h5⟩ := h
  obtain ⟨b, off, rfl, hc⟩ := h5 hl
  exact decP_some w b off cap l hl h1 h2 h4 hc hT
end Go.Proofs.YtcjilmafdpnfeaaDoor
namespace Go.Proofs.YtcjilmafdpnfeaaDoor
open Go.RowKit
set_option linter.unusedVariables false
set_option linter.unusedSimpArgs false
set_option maxRecDepth 20000

theorem box6r {w x : World} {v0 v1 v2 v3 v4 v5 : Value} {t : TypeId} (h : Below (w.heap.size + 1) (w.alloc (.cells #[v0, v1, v2, v3, v4, v5] t)) x) : x.heap[w.heap.size]? = some (.cells #[v0, v1, v2, v3, v4, v5] t (0, 0)) := by rw [h.block _ (by omega)]; exact Go.heap_alloc_new w _
end Go.Proofs.YtcjilmafdpnfeaaDoor
namespace Go.Proofs.YtcjilmafdpnfeaaDoor
open Go.RowKit
set_option linter.unusedVariables false
set_option linter.unusedSimpArgs false
set_option maxRecDepth 20000

/-- a packet's cells -/
structure PC (CS : Array Value) : Prop where
  i : (Tryd.prog.info? 30).map (·.size) = some CS.size
  z : zPk.size = CS.size
  o : CS.all (·.oneCell') = true
theorem pc_of (c : Int) {p : PV} (hp : p.s.length = 32) (v : Value) (hv : v.oneCell' = true) : PC (.int .i64 c :: p.row v).toArray :=
  ⟨by rw [List.size_toArray, List.length_cons, row_len hp]; exact infoK, by show 43 = _; rw [List.size_toArray, List.length_cons, row_len hp], row_all' c p v hv⟩
theorem dPv_n {l : List Nat} (hb : ∀ x ∈ l, x < 256) : (dPv l).s.length = 32 := by
  by_cases h : dErr l = 0
  · exact (packet_only hb h).2.2.1.n
  · unfold dPv; rw [if_neg h]; rfl
theorem decP_own (w : World) (g cap k : Nat) (l : List Nat) (hk : l.length = k) (h : BSl w (.slice (some ⟨g, 0, none⟩) k cap) l) (hg : g < w.heap.size) (hT : BTab w) :
    Calls Tryd.prog 5 #[.slice (some ⟨g, 0, none⟩) k cap] w fun e' w' => ∃ CS, e' = .returned (.tuple #[.agg CS, .int .i64 (dAt l : Nat), .int .i64 (dErr l : Nat)]) ∧ PC CS ∧ Below w.heap.size w w' := by
  subst hk
  obtain ⟨a, c, e, h1, h2, h3, h4, h5⟩ := h
  simp only [Value.slice.injEq] at e
  obtain ⟨rfl, _, rfl⟩ := e
  refine (decP_at w g 0 cap l hg h1 h2 h4 (fun i hi => ?_) hT).mono ?_
  · obtain ⟨b, off, e, hc⟩ := h5 (by omega)
    simp only [Option.some.injEq, Addr.mk.injEq] at e
    obtain ⟨rfl, rfl, _⟩ := e
    exact hc i hi
  · rintro e' w' ⟨v', rfl, hv, hb⟩
    obtain ⟨va, vc, rfl, _⟩ := hv
    exact ⟨_, rfl, pc_of _ (dPv_n h4) _ rfl, hb⟩
/-- the beginning of bytes -/
theorem BSl.head {w : World} {a : Option Addr} {cap : Nat} {l : List Nat} (h : BSl w (.slice a l.length cap) l) (n : Nat) (hn : n ≤ l.length) : BSl w (.slice a n cap) (l.take n) := by
  have hln : (l.take n).length = n := by simp; omega
  obtain ⟨a', c', e, h1, h2, h3, h4, h5⟩ := h
  simp only [Value.slice.injEq] at e
  obtain ⟨rfl, _, rfl⟩ := e
  refine ⟨a, cap, by rw [hln], by rw [hln]; omega, h2, h3, fun x hx => h4 x (List.mem_of_mem_take hx), fun hp => ?_⟩
  obtain ⟨b, off, rfl, hc⟩ := h5 (by omega)
  refine ⟨b, off, rfl, fun i hi => ?_⟩
  rw [hc i (by omega)]
  have : (l.take n).getD i 0 = l.getD i 0 := by
    rw [List.getD_eq_getElem?_getD, List.getD_eq_getElem?_getD, List.getElem?_take_of_lt (by omega)]
  rw [this]
end Go.Proofs.YtcjilmafdpnfeaaDoor
