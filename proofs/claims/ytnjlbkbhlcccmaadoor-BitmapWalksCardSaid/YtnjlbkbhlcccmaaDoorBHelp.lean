import Derived.Test.YtnjlbkbhlcccmaaDoorBWords
namespace Go.Proofs.YtnjlbkbhlcccmaaDoor
open Go.RowKit Go.Shelf
set_option linter.unusedVariables false
set_option linter.unusedSimpArgs false
set_option maxRecDepth 20000

theorem below_drewN {B : Nat} {a w : World} (h : Below B a w) : ∀ n, Below B a (w.drewN n)
  | 0 => h
  | n + 1 => (below_drewN h n).drew

/-- nothing but the tape's place has turned -/
def Qt (w w' : World) : Prop := w'.heap = w.heap ∧ Below w.heap.size w w'
theorem Qt.refl (w : World) : Qt w w := ⟨rfl, Below.refl _ _⟩
theorem Qt.drewN {w w1 : World} (h : Qt w w1) : ∀ n, Qt w (w1.drewN n)
  | 0 => h
  | n + 1 => ⟨(Qt.drewN h n).1, (Qt.drewN h n).2.drew⟩
theorem ret_bool {a b : Bool} (h : a = b) : Ending.returned (.bool a) = .returned (.bool b) := by rw [h]

theorem take_eq_iff {l1 l2 : List Nat} (h : l1.length = l2.length) : l1 = l2 ↔ ∀ i, i < l1.length → l1.getD i 0 = l2.getD i 0 := by
  constructor
  · rintro rfl i _; rfl
  · intro hh
    apply List.ext_getElem h
    intro i h1 h2
    have := hh i h1
    simpa [List.getD, h1, h2] using this

set_option maxHeartbeats 400000 in
theorem sameWords_any {w : World} {v1 v2 : Value} {l1 l2 : List Nat} (h1 : WSl w v1 l1) (h2 : WSl w v2 l2) :
    Calls Tryd.prog 28 #[v1, v2] w fun e w' => e = .returned (.bool (decide (l1 = l2))) ∧ Qt w w' := by
  have g1 := hide h1.getLt
  have g2 := hide h2.getLt
  obtain ⟨a, cap, rfl, hl, hm, hn, hb, hcell⟩ := h1
  obtain ⟨a2, cap2, rfl, hl2, hm2, hn2, hb2, hcell2⟩ := h2
  unfold maxLen at hm hm2
  have HC := hide hcell
  have HC2 := hide hcell2
  clear hb2 hn hn2 hb hcell hcell2
  by_cases hlen : l1.length = l2.length
  · have HIFF := hide (take_eq_iff hlen)
    have HLEN := hide hlen
    rw [← hlen] at HC2 hl2
    rw [← hlen]
    clear hlen
    generalize hR : decide (l1 = l2) = R
    have HR := hide hR
    clear hR
    generalize hL : l1.length = len at *
    clear hL
    go_enter Tryd.func28, Tryd.ntmps28
    go_wp2
    go_loopw [5] (fun i wr => ∃ k : Nat, k ≤ len ∧ i = .int .i64 k ∧ (∀ i, i < k → l1.getD i 0 = l2.getD i 0) ∧ ∃ n, wr = w.drewN n) (fun i _ => len - (intOf i).toNat)
    case atStart => exact ⟨0, Nat.zero_le _, rfl, fun i hi => by omega, 0, rfl⟩
    case round =>
      obtain ⟨k, hk, rfl, hz, n, rfl⟩ := hrel
      have HZ := hide hz
      clear hz
      by_cases hlt : k < len
      · obtain ⟨b, off, rfl, hcell⟩ := HC.out (by omega)
        obtain ⟨b2, off2, rfl, hcell2⟩ := HC2.out (by omega)
        have hck := hcell k hlt
        have hck2 := hcell2 k hlt
        have hx := g1.out k
        have hy := g2.out k
        clear hcell hcell2 HC HC2
        by_cases hxy : l1.getD k 0 = l2.getD k 0
        · have HN : Hid (∀ i, i < k + 1 → l1.getD i 0 = l2.getD i 0) := hide fun i hi => by
            by_cases e : i = k
            · rw [e]; exact hxy
            · exact HZ.out i (by omega)
          rw [← hxy] at hck2
          clear hxy HZ
          generalize l1.getD k 0 = x at *
          have hne : ((x : Int) != (x : Int)) = false := by simp
          go_wp2
          go_quiet (fail)
          go_wp2
          go_roundw
          case rel => exact ⟨k + 1, by omega, by go_num, HN.out, _, rfl⟩
          case measure => simp [intOf]; omega
        · have HF : Hid (R = false) := hide (by
            rw [← HR.out]
            exact decide_eq_false fun e => hxy (by rw [e]))
          have hne : (((l1.getD k 0 : Nat) : Int) != ((l2.getD k 0 : Nat) : Int)) = true := by simp only [bne_iff_ne, ne_eq]; omega
          clear hxy HZ
          generalize l1.getD k 0 = x at *
          generalize l2.getD k 0 = y at *
          go_wp2
          go_quiet (fail)
          go_wp2
          go_ret
          exact ⟨ret_bool HF.out.symm, ((Qt.refl _).drewN _).drewN _⟩
      · have HT : Hid (R = true) := hide (by
          rw [← HR.out]
          exact decide_eq_true (HIFF.out.2 fun i hi => HZ.out i (by omega)))
        go_wp2
        go_ret
        exact ⟨ret_bool HT.out.symm, (Qt.refl _).drewN _⟩
  · have hR : decide (l1 = l2) = false := decide_eq_false fun e => hlen (by rw [e])
    rw [hR]
    have hne : ((l1.length : Int) != (l2.length : Int)) = true := by simp only [bne_iff_ne, ne_eq]; omega
    clear hlen hR HC HC2 g1 g2
    generalize l1.length = len1 at *
    generalize l2.length = len2 at *
    go_enter Tryd.func28, Tryd.ntmps28
    go_wp2
    go_ret
    exact ⟨rfl, Qt.refl _⟩
end Go.Proofs.YtnjlbkbhlcccmaaDoor
