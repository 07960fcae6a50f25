import Derived.Test.YtcjilmafdpnfeaaDoorCrc
import Derived.Laws.AppendOwnNone
import Derived.Laws.CopyOwn
import Derived.Lib.SliceRun
namespace Go.Proofs.YtcjilmafdpnfeaaDoor
open Go.RowKit
open Num
set_option linter.unusedVariables false

theorem hide {p : Prop} (h : p) : Hid p := h
theorem unhide {p : Prop} (h : Hid p) : p := h

def byteV (n : Nat) : Value := .int .u8 (n : Int)

/-- What the call has made itself, from block 'base' on: a slice that owns the bytes l. -/
def Own (w : World) (base : Nat) (v : Value) (l : List Nat) : Prop := w.ownsRow base 5 1 v l.length (l.map byteV) ∧ ∀ b ∈ l, b < 256

theorem BSl.below {w w' : World} {v : Value} {l : List Nat} (h : BSl w v l) (hb : Below w.heap.size w w') : BSl w' v l := by
  obtain ⟨a, cap, rfl, h1, h2, h3, h4, h5⟩ := h
  refine ⟨a, cap, rfl, h1, h2, h3, h4, fun hp => ?_⟩
  obtain ⟨b, off, rfl, hc⟩ := h5 hp
  refine ⟨b, off, rfl, fun i hi => ?_⟩
  have := hc i hi
  rw [hb.cell (p := ⟨b, off + i, none⟩) (World.block_lt_of_cell? w _ this)]
  exact this

theorem BSl.drewN {w : World} {v : Value} {l : List Nat} (h : BSl w v l) (n : Nat) : BSl (w.drewN n) v l := h

theorem Own.shape {w : World} {base : Nat} {v : Value} {l : List Nat} (h : Own w base v l) (hp : 0 < l.length) : ∃ g cap, v = .slice (some ⟨g, 0, none⟩) l.length cap ∧ base ≤ g ∧ g < w.heap.size ∧ l.length ≤ cap ∧ cap ≤ maxLen := by
  rcases h.1.2 with ⟨_, h0⟩ | ⟨g, cap, cur, rfl, hb, hg, hn, hm, _⟩
  · omega
  · exact ⟨g, cap, rfl, hb, (Array.getElem?_eq_some_iff.1 hg).1, hn, hm⟩

theorem map_byteV_getD {l : List Nat} {i : Nat} (hi : i < l.length) : (l.map byteV)[i]? = some (.int .u8 (l.getD i 0 : Nat)) := by
  simp [List.getD, hi, byteV]

/-- the first m bytes of what is owned -/
theorem Own.part {w : World} {base : Nat} {g cap : Nat} {l : List Nat} (h : Own w base (.slice (some ⟨g, 0, none⟩) l.length cap) l) (m : Nat) (hm : m ≤ l.length) : BSl w (.slice (some ⟨g, 0, none⟩) m cap) (l.take m) := by
  have hlen : (l.take m).length = m := by simp; omega
  have hs : l.length ≤ cap ∧ cap ≤ maxLen := by
    rcases h.1.2 with ⟨h0, _⟩ | ⟨g', cap', cur, h0, hb, hg, hn, hmm, _⟩
    · simp at h0
    · simp only [Value.slice.injEq, Option.some.injEq, Addr.mk.injEq, and_true, true_and] at h0
      obtain ⟨rfl, rfl⟩ := h0
      exact ⟨hn, hmm⟩
  refine ⟨_, cap, by rw [hlen], by omega, hs.2, by simp, fun b hb => h.2 b (List.mem_of_mem_take hb), fun _ => ⟨g, 0, rfl, fun i hi => ?_⟩⟩
  rw [hlen] at hi
  rw [Nat.zero_add, h.1.cellAt i (by omega), map_byteV_getD (by omega)]
  simp [List.getD, hi]

theorem Own.bsl {w : World} {base : Nat} {v : Value} {l : List Nat} (h : Own w base v l) : BSl w v l := by
  by_cases hp : 0 < l.length
  · obtain ⟨g, cap, rfl, _⟩ := h.shape hp
    have := h.part l.length (Nat.le_refl _)
    rwa [List.take_of_length_le (Nat.le_refl _)] at this
  · rcases h.1.2 with ⟨rfl, h0⟩ | ⟨g, cap, cur, rfl, hb, hg, hn, hm, _⟩
    · exact ⟨none, 0, by rw [h0], by omega, by unfold maxLen; omega, fun _ => rfl, h.2, fun h' => absurd h' hp⟩
    · exact ⟨_, cap, rfl, hn, hm, by simp, h.2, fun h' => absurd h' hp⟩

theorem Own.kept {w w' : World} {base : Nat} {v : Value} {l : List Nat} (h : Own w base v l) (hb : Below w.heap.size w w') : Own w' base v l := by
  refine ⟨⟨h.1.1, ?_⟩, h.2⟩
  rcases h.1.2 with h0 | ⟨g, cap, cur, rfl, h1, hg, r⟩
  · exact .inl h0
  · exact .inr ⟨g, cap, cur, rfl, h1, by rw [hb.block g (Array.getElem?_eq_some_iff.1 hg).1]; exact hg, r⟩

theorem byteV_oneCell (l : List Nat) : ∀ u ∈ l.map byteV, u.oneCell' = true := by
  intro u hu
  obtain ⟨_, _, rfl⟩ := List.mem_map.1 hu
  rfl

theorem Tryd.info5 : (Tryd.prog.info? 5).map (fun i => (i.zero, i.size, i.bytes)) = some (some (.int .u8 0), 1, 1) := by kernel_rfl

theorem BSl.news {w : World} {ad : Addr} {n cap : Nat} {l : List Nat} (h : BSl w (.slice (some ad) n cap) l) : ∀ j u, (l.map byteV)[j]? = some u → w.cell? (ad.add j) = some u := by
  intro j u hu
  have hj : j < l.length := by simpa using (List.getElem?_eq_some_iff.1 hu).1
  obtain ⟨a, cap, e, h1, h2, h3, h4, h5⟩ := h
  simp only [Value.slice.injEq] at e
  obtain ⟨rfl, rfl, rfl⟩ := e
  obtain ⟨b, off, e, hc⟩ := h5 (by omega)
  simp only [Option.some.injEq] at e
  subst e
  rw [Addr.add_lit, hc j hj]
  rw [map_byteV_getD hj] at hu
  exact hu

theorem Own.grown {w w' : World} {base : Nat} {v : Value} {l : List Nat} (h : Own w base v l) {o : Obj} (hw : w' = w.alloc o) : Own w' base v l := by
  subst hw; exact ⟨h.1.alloc o, h.2⟩

end Go.Proofs.YtcjilmafdpnfeaaDoor
