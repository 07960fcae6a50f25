import Derived.Test.YtlpmpicmpklaoacGreatDFlush
namespace Go.Proofs.YtlpmpicmpklaoacGreat
open Go.RowKit Go.Maps
set_option linter.unusedVariables false
set_option linter.unusedSimpArgs false
set_option maxRecDepth 20000

/-- how many of n cached writes of a block a crash lets stand -/
def keptN (p : List Nat) (k n : Nat) : Nat := if p.length = 0 then 0 else p.getD (k % p.length) 0 % (n + 1)
theorem keptN_le (p : List Nat) (k n : Nat) : keptN p k n ≤ n := by
  unfold keptN
  split
  · omega
  · have := Nat.mod_lt (p.getD (k % p.length) 0) (show 0 < n + 1 by omega)
    omega

theorem tmod_nat (a b : Nat) : Int.tmod (a : Int) (b : Int) = ((a % b : Nat) : Int) := rfl

theorem kept_any {w : World} {v : Value} {p : List Nat} (hv : BSl w v p) (k n : Nat) (hk : k < 8192) (hn : n < 9223372036854775807) :
    Calls Tryz.prog 87 #[v, .int .i64 (k : Int), .int .i64 (n : Int)] w fun e w' => e = .returned (.int .i64 (keptN p k n : Int)) ∧ w' = w := by
  obtain ⟨a, cap, rfl, hl, hm, hn', hb, hcell⟩ := hv
  unfold maxLen at hm
  by_cases h0 : p.length = 0
  · have e1 : keptN p k n = 0 := by simp [keptN, h0]
    rw [e1, h0]
    clear hcell hb
    go_enter Tryz.func87, Tryz.ntmps87
    go_wp2
    go_ret
    exact ⟨rfl, rfl⟩
  · obtain ⟨g, off, rfl, hc⟩ := hcell (by omega)
    have e1 : keptN p k n = p.getD (k % p.length) 0 % (n + 1) := by simp [keptN, h0]
    have hkm : k % p.length < p.length := Nat.mod_lt _ (by omega)
    have hck := hc _ hkm
    have hx : p.getD (k % p.length) 0 < 256 := hb _ (mem_getD hkm)
    have t1 := tmod_nat k p.length
    have t2 := tmod_nat (p.getD (k % p.length) 0) (n + 1)
    rw [e1]
    clear hc hcell hb hn' e1
    generalize hj : k % p.length = j at *
    clear hj
    generalize p.getD j 0 = x at *
    have hN0 : ¬ (p.length : Int) = 0 := by omega
    generalize p.length = N at *
    have t2' : Int.tmod (x : Int) ((n : Int) + 1) = ((x % (n + 1) : Nat) : Int) := by rw [← t2]; rfl
    clear t2
    generalize x % (n + 1) = y at *
    go_enter Tryz.func87, Tryz.ntmps87
    go_wp2
    go_ret
    exact ⟨rfl, rfl⟩

def St.crash (S : St) (p : List Nat) : St := { S.allDown (fun k => keptN p k (S.cache k).length) with off := false, fuse := -1 }

set_option maxHeartbeats 1000000 in
theorem Crash_any {w : World} {L : Lay} {S : St} (hR : Rep w L S) {v : Value} {p : List Nat} (hv : BSl w v p) (hvU : 0 < p.length → ∀ g, blockOf v = some g → ¬ L.U g) (hlen : ∀ k, (S.cache k).length < 9223372036854775807) :
    Calls Tryz.prog 63 #[PD L, v] w fun e w' => e = .returned (.tuple #[]) ∧ Rep w' L (S.crash p) ∧ Grow w w' L.U L.U := by
  obtain ⟨A, D, ho1, hc1⟩ := hR
  have HV : Hid (∀ w', Grow w w' L.U L.U → BSl w' v p) := hide fun w' hg => by
    by_cases hp : 0 < p.length
    · exact hv.keptIf fun g hg1 hg2 => hg.keep g hg2 (hvU hp g hg1)
    · obtain ⟨a, cap, e, h1, h2, h3, h4, h5⟩ := hv
      exact ⟨a, cap, e, h1, h2, h3, h4, fun h => absurd h hp⟩
  have HNB := hide hc1.nb2
  have HLEN := hide hlen
  clear hv hvU hlen
  have c3 : w.cell? ⟨L.p, 3, none⟩ = some (.map (some L.cb)) := dcell hc1.hp 3
  unfold PD
  go_enter Tryz.func63, Tryz.ntmps63
  go_wp2_with (at_range; refine wpList_range_own _ rfl _ 99 rfl 3 33 kInt Tryz.underlying99 Rv L.cb 8192 D rfl ho1 ?_; intro w0 hrg0 hg0 hs0)
  go_frame
  obtain ⟨r, hr⟩ : ∃ r, r = w.heap.size := ⟨_, rfl⟩
  rw [← hr] at hrg0 ⊢
  have hrw : w.heap.size ≤ r := by rw [hr]; exact Nat.le_refl _
  have hrU : ¬ L.U r := fun hu => by have := hc1.uLt r hu; omega
  have hc0 : Core w0 L A D S := hc1.kept (fun b hb => hg0.block b (hc1.uLt b hb) (by simp)) hg0.size
  have hG0 : Grow w w0 L.U L.U := ⟨hg0.os, hg0.tape, hg0.output, hg0.size, fun b hb _ => hg0.block b hb (by simp), fun _ _ h => h, fun _ h => h⟩
  have START := hide (FInv.start (kept := fun k => keptN p k (S.cache k).length) hc0 hrg0 hG0 (fun k hk h0 => by have := keptN_le p k (S.cache k).length; rw [h0] at this ⊢; simp at this; exact this))
  clear hrg0 hg0 hs0 hc0 hG0 c3 hc1 ho1 hr
  go_loopw [11] (fun _ wr => ∃ left cnt A D, FInv w wr L r S (fun k => keptN p k (S.cache k).length) left cnt A D) (fun _ wr => wr.rangeLeft L.cb r)
  case atStart => exact ⟨_, _, _, _, START.out⟩
  case round =>
    clear START
    obtain ⟨left, cnt, A, D, hI⟩ := hrel
    have HI := hide hI
    have hrg := hI.rg
    clear hI
    go_wp2_with (at_next; refine wpList_nextF rfl _ rfl rfl HI.out ?_ ?_)
    · intro hl0
      have hRd := HI.out.done hl0.out
      have hGd := HI.out.gr
      have c4 : wr.cell? ⟨L.p, 4, none⟩ = some (.bool S.off) := rcell (U' := L.U) hRd 4
      have f4 := rfree (L := L) (U' := L.U) hRd 4
      have c5 : wr.cell? ⟨L.p, 5, none⟩ = some (.int .i64 S.fuse) := rcell (U' := L.U) hRd 5
      have f5 := rfree (L := L) (U' := L.U) hRd 5
      obtain ⟨h1, h2, h3⟩ := hRd.store 4 (.bool false) false S.fuse S.rd S.wr S.th S.fl hRd.fz rfl
      obtain ⟨k1, k2, k3⟩ := h1.store 5 (.int .i64 (-1)) false (-1) S.rd S.wr S.th S.fl (by omega) rfl
      have HK1 := hide k1
      have HK2 := hide (hGd.trans (h2.trans k2))
      clear hrg HI hRd h1 h2 h3 k1 k2 k3 hGd
      go_wp2
      go_end0
      exact ⟨rfl, HK1.out, HK2.out⟩
    · intro k a cp w2 cnt2 hk hlk0 hrg2 hlt hg2 hen
      have hlk := hlk0.out
      obtain ⟨hc2, hG2⟩ := HI.out.turned hrU hrw hg2.out
      have hcl : keptN p k (S.cache k).length ≤ ((S.settle (fun k => keptN p k (S.cache k).length) fun k => left (kL k)).cache k).length := by simp [St.settle, hlk]; exact keptN_le _ _ _
      have hrgd : w2.drew.ranges Tryz.prog 3 Rv L.cb r 8192 D (fun z => left z && !z.sameKey (kL k)) cnt2 := hrg2.out
      have HSET := hide (settle_any (w := w2.drew) (n := keptN p k (S.cache k).length) hrgd (hc2.kept (fun _ _ => rfl) (Nat.le_refl _)) (k := k) hk hcl hrU)
      have HKEP := hide (kept_any (w := w2.drew) (HV.out _ hG2.drew) k (S.cache k).length (by have := HNB.out; omega) (HLEN.out k))
      have c2 : w2.drew.cell? ⟨L.p, 2, none⟩ = some (medV L (S.settle (fun k => keptN p k (S.cache k).length) fun k => left (kL k))) := dcell (w := w2.drew) hc2.hp 2
      have c3 : w2.drew.cell? ⟨L.p, 3, none⟩ = some (.map (some L.cb)) := dcell (w := w2.drew) hc2.hp 3
      have HKp : Hid (∀ w', Two L w2.drew w' → ∀ i, w'.cell? ⟨L.p, i, none⟩ = w2.drew.cell? ⟨L.p, i, none⟩) := hide fun w' ht i => World.cell?_of_block (ht.keep L.p (fun e => by
        obtain ⟨ms, h1, _⟩ := hc2.hm
        have h2 := hc2.hp
        rw [e, h1] at h2
        simp at h2) (fun e => by
        obtain ⟨es, c, h, _⟩ := hrgd.owns
        have h2 : w2.drew.heap[L.p]? = _ := hc2.hp
        rw [e, h] at h2
        simp at h2))
      have HC2 := hide hc2
      have HG2 := hide hG2
      have HRGo := hide hrg
      clear hc2 hG2 hg2 hrg2 hrg hlk hcl hrgd
      generalize medV L (S.settle (fun k => keptN p k (S.cache k).length) fun k => left (kL k)) = mv at *
      generalize hM : keptN p k (S.cache k).length = M at *
      have HM := hide hM
      clear hM
      generalize hN : (S.cache k).length = N at *
      have HNn := hide hN
      clear hN
      go_wp2_with fail
      go_region_held3 (fun w' => w'.cell? ⟨L.p, 2, none⟩ = some mv ∧ w'.cell? ⟨L.p, 3, none⟩ = some (.map (some L.cb))) (first | (constructor <;> assumption) | go_keep)
        (first
          | (go_at_call 87; refine HKEP.out.mono ?_; rintro e w' ⟨rfl, rfl⟩)
          | (go_at_call 85; refine HSET.out.mono ?_; rintro e w' ⟨rfl, A', cnt3, hrg3, hle3, hc3, ht3⟩; have c2' : w'.cell? ⟨L.p, 2, none⟩ = some mv := (HKp.out w' ht3 2).trans c2; have c3' : w'.cell? ⟨L.p, 3, none⟩ = some (.map (some L.cb)) := (HKp.out w' ht3 3).trans c3; have HR3 := hide hrg3; have HL3 := hide hle3; have HC3 := hide hc3; have HT3 := hide ht3; clear hrg3 hle3 hc3 ht3))
      go_wp2
      go_roundw
      case rel =>
        refine ⟨_, _, _, _, HI.out.step hk hlk0.out (cnt' := cnt3) (A' := A') ?_ ?_ ((HG2.out.drew).two (HC2.out.kept (w' := w2.drew) (fun _ _ => rfl) (Nat.le_refl _)) HT3.out)⟩
        · have := HR3.out
          rw [Maps.strike_twice] at this
          exact this
        · rw [HNn.out, HM.out]; exact HC3.out
      case measure =>
        rw [HR3.out.left_eq, HRGo.out.left_eq]
        have h1 := HL3.out
        have h2 := hlt.out
        omega
end Go.Proofs.YtlpmpicmpklaoacGreat
