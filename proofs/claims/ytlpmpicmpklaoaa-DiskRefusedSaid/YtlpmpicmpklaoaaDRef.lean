import Derived.Test.YtlpmpicmpklaoaaDRefM
import Derived.Test.YtlpmpicmpklaoaaDKeys
namespace Go.Proofs.Ytlpmpicmpklaoaa
open Go.RowKit Go.Maps Go.Sort
set_option linter.unusedVariables false
set_option linter.unusedSimpArgs false
set_option maxRecDepth 20000

set_option maxHeartbeats 1000000 in
theorem refused_no {w : World} {L : Lay} {S : St} (hR : Rep w L S) (o : OpV) (hok : o.ok w L) (h1 : o.kind ≠ 1) (h2 : o.kind ≠ 2) (h3 : o.kind ≠ 3) (h4 : o.kind ≠ 4) (h8 : o.kind ≠ 8) (h10 : o.kind ≠ 10) :
    Calls Try.prog 32 #[PD L, o.val, .int .i64 (S.nb : Int), .int .i64 (S.sz : Int)] w fun e w' => RefPost w L S e w' := by
  have HB0 := hide ((Below.refl w.heap.size w).alloc (Nat.le_refl _) o.box)
  have HR1 := hide (hR.alloc o.box)
  have HGA := hide (Grow.ofBelow L.U HB0.out)
  unfold OpV.box at HR1 HGA
  unfold OpV.val PD
  clear hok hR HB0
  generalize o.dv = dv at *
  generalize o.block = bl at *
  generalize o.count = ct at *
  generalize o.kind = kd at *
  by_cases c1 : bl < 0
  · go_enter Try.func32, Try.ntmps32
    go_wp2
    go_ret
    exact RefPost.mk L.U S HR1.out HGA.out (like_refl S)
  · by_cases c2 : (S.nb : Int) ≤ bl
    · go_enter Try.func32, Try.ntmps32
      go_wp2
      go_ret
      exact RefPost.mk L.U S HR1.out HGA.out (like_refl S)
    · go_enter Try.func32, Try.ntmps32
      go_wp2
      go_ret
      exact RefPost.mk L.U S HR1.out HGA.out (like_refl S)

theorem refused_law {w : World} {L : Lay} {S : St} (hR : Rep w L S) (o : OpV) (hok : o.ok w L) (hb : ∀ k, (S.cache k).length + 1 ≤ 9382499223500) :
    Calls Try.prog 32 #[PD L, o.val, .int .i64 (S.nb : Int), .int .i64 (S.sz : Int)] w fun e w' => RefPost w L S e w' := by
  by_cases h1 : o.kind = 1
  · exact refused_1 hR o hok hb h1
  by_cases h2 : o.kind = 2
  · exact refused_2 hR o hok hb h2
  by_cases h3 : o.kind = 3
  · exact refused_3 hR o hok hb h3
  by_cases h4 : o.kind = 4
  · exact refused_4 hR o hok hb h4
  by_cases h8 : o.kind = 8
  · exact refused_8 hR o hok hb h8
  by_cases h10 : o.kind = 10
  · exact refused_10 hR o hok hb h10
  exact refused_no hR o hok h1 h2 h3 h4 h8 h10

theorem like_crash2 {S T : St} (h : S.like T) (p : List Nat) : (S.crash p).like (T.crash p) := by
  obtain ⟨h1, h2, h3, h4, h5, h6⟩ := h
  refine ⟨h1, h2, ?_, rfl, rfl, rfl⟩
  funext k
  show (if 0 < keptN p k (T.cache k).length then some ((T.cache k).getD _ []) else T.med k) = (if 0 < keptN p k (S.cache k).length then some ((S.cache k).getD _ []) else S.med k)
  rw [h3, h4]
theorem like_symm {S T : St} (h : S.like T) : T.like S := ⟨h.1.symm, h.2.1.symm, h.2.2.1.symm, h.2.2.2.1.symm, h.2.2.2.2.1.symm, h.2.2.2.2.2.symm⟩
theorem like_wait {S T : St} (h : S.like T) (b : Int) : T.wait b = S.wait b := by
  unfold St.wait
  rw [h.1, h.2.2.2.1]
theorem ownsRow_low {w : World} {base : Nat} {e : TypeId} {v : Value} {n : Nat} {xs : List Value} (h : w.ownsRow base e 1 v n xs) : w.ownsRow 0 e 1 v n xs := by
  refine ⟨h.1, ?_⟩
  rcases h.2 with h0 | ⟨g, cap, cur, h1, _, r⟩
  · exact .inl h0
  · exact .inr ⟨g, cap, cur, h1, Nat.zero_le _, r⟩
theorem SeenIn.keptV {w w' : World} {V X X' : Nat → Prop} {g : Nat} {bv ev : Value} {xs : List (Option (List Nat))} {es : List Int} (h : SeenIn w V g bv ev xs es) (hg : Grow w w' X X') (hX : ∀ b, X b → V b) : SeenIn w' V g bv ev xs es := by
  have hlt := (Array.getElem?_eq_some_iff.1 h.at_).1
  exact ⟨(hg.keep g hlt (fun hu => h.nu (hX g hu))).trans h.at_, h.nu, h.sa.kept fun b hb hu => ⟨hg.keep b hb (fun h' => hu (hX b h')), hu⟩⟩
theorem SeenIn.mkV {w : World} {V : Nat → Prop} (hV : ∀ b, V b → b < w.heap.size) {bv ev : Value} {xs : List (Option (List Nat))} {es : List Int} (h : SeenAt w V bv ev xs es) : SeenIn (w.alloc (.cells #[bv, ev] 53)) V w.heap.size bv ev xs es :=
  ⟨Go.heap_alloc_new w _, fun hu => by have := hV _ hu; omega, h.below ((Below.refl _ _).alloc (Nat.le_refl _) _)⟩
theorem sameInts_nil (w : World) : Calls Try.prog 33 #[.slice none 0 0, .slice none 0 0] w fun e w' => e = .returned (.bool true) ∧ ∃ n, w' = w.drewN n := by
  go_enter Try.func33, Try.ntmps33
  go_wp2
  go_loopw [5] (fun i wr => i = .int .i64 0 ∧ wr = w) (fun i _ => 0)
  case atStart => exact ⟨rfl, rfl⟩
  case round =>
    obtain ⟨rfl, rfl⟩ := hrel
    go_wp2
    go_ret
    exact ⟨rfl, 0, rfl⟩
/-- two rows of the same ints -/
theorem sameInts_rows {w : World} {b1 b2 : Nat} {v1 v2 : Value} {es : List Int} (h1 : w.ownsRow b1 3 1 v1 es.length (es.map encZ)) (h2 : w.ownsRow b2 3 1 v2 es.length (es.map encZ)) (e1 : v1 = .slice none 0 0 ↔ es = []) (e2 : v2 = .slice none 0 0 ↔ es = []) :
    Calls Try.prog 33 #[v1, v2] w fun e w' => e = .returned (.bool true) ∧ ∃ n, w' = w.drewN n := by
  cases es with
  | nil => rw [e1.2 rfl, e2.2 rfl]; exact sameInts_nil w
  | cons x r => exact sameInts_eq v1 v2 (x :: r) w (by simp) (ownsRow_low h1) (ownsRow_low h2)
end Go.Proofs.Ytlpmpicmpklaoaa
