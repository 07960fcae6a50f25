import Derived.Test.YtbkcenpohcjgnabDoorRoom
namespace Go.Proofs.YtbkcenpohcjgnabDoor
open Go.RowKit
open Num
set_option linter.unusedVariables false

theorem Own.keptIf {w w' : World} {base : Nat} {v : Value} {l : List Nat} (h : Own w base v l) (hb : ∀ g, v.ownBlock = some g → w'.heap[g]? = w.heap[g]?) : Own w' base v l := by
  refine ⟨⟨h.1.1, ?_⟩, h.2⟩
  rcases h.1.2 with h0 | ⟨g, cap, cur, rfl, h1, hg, r⟩
  · exact .inl h0
  · exact .inr ⟨g, cap, cur, rfl, h1, by rw [hb g rfl]; exact hg, r⟩

set_option maxHeartbeats 400000 in
theorem spoil_fine (g cap m n : Nat) (l : List Nat) (base : Nat) (w : World) (hm : m < 256) (hn : n ≤ l.length) (hl : l.length ≤ 140737488355328 + 150) (hbg : base ≤ g) (h : Own w base (.slice (some ⟨g, 0, none⟩) l.length cap) l) :
    Calls Tryd.prog 26 #[.slice (some ⟨g, 0, none⟩) n cap, .int .u8 (m : Int)] w fun e w' => e = .returned (.tuple #[]) ∧ Own w' base (.slice (some ⟨g, 0, none⟩) l.length cap) (spoilL m n l) ∧ Below base w w' ∧ w'.heap.size = w.heap.size ∧ ∀ b, b ≠ g → w'.heap[b]? = w.heap[b]? := by
  have ho := u8_or_nat m 1 hm (by omega)
  rw [show ((1 : Nat) : Int) = 1 from rfl] at ho
  have hmo : m ||| 1 < 256 := Nat.or_lt_two_pow (n := 8) hm (by omega)
  have H := h
  have HH : Hid (Own w base (.slice (some ⟨g, 0, none⟩) l.length cap) l) := h
  clear h H
  go_enter Tryd.func26, Tryd.ntmps26
  go_wp2
  go_loopw [4] (fun i wr => ∃ k : Nat, k ≤ n ∧ i = .int .i64 k ∧ Own wr base (.slice (some ⟨g, 0, none⟩) l.length cap) (spoilL m k l) ∧ Below base w wr ∧ wr.heap.size = w.heap.size ∧ ∀ b, b ≠ g → wr.heap[b]? = w.heap[b]?) (fun i _ => n - (intOf i).toNat)
  case atStart => exact ⟨0, Nat.zero_le _, rfl, HH.out, Below.refl _ _, rfl, fun _ _ => rfl⟩
  case round =>
    obtain ⟨k, hk, rfl, hown, hbel, hsz, hoth⟩ := hrel
    have HOT := hide hoth
    clear hoth
    by_cases hlt : k < n
    · have hown1 : Own wr base (.slice (some ⟨g, 0, none⟩) (spoilL m k l).length cap) (spoilL m k l) := by rw [spoilL_len]; exact hown
      have hck : wr.cell? ⟨g, k, none⟩ = some (.int .u8 ((spoilL m k l).getD k 0 : Nat)) := by rw [hown1.1.cellAt k (by rw [spoilL_len]; omega), map_byteV_getD (by rw [spoilL_len]; omega)]
      have hfr := hown1.1.frozenAt k
      rw [spoilL_getD (by omega)] at hck
      have hx : l.getD k 0 < 256 := HH.out.2 _ (mem_getD (by omega))
      have hxo := u8_xor_nat (l.getD k 0) (m ||| 1) hx hmo
      have HR : Hid (Own (wr.setCell ⟨g, k, none⟩ (.int .u8 ((l.getD k 0 ^^^ (m ||| 1) : Nat) : Int))) base (.slice (some ⟨g, 0, none⟩) l.length cap) (spoilL m (k + 1) l)) := by
        have := hown1.stored k (l.getD k 0 ^^^ (m ||| 1)) (Nat.xor_lt_two_pow (n := 8) hx hmo)
        rw [spoilL_set (by omega), spoilL_len] at this
        exact this
      have HZ : Hid (wr.heap.size = w.heap.size) := hsz
      clear hown hown1 hsz
      generalize l.getD k 0 = x at *
      go_wp2
      go_roundw
      case rel => exact ⟨k + 1, by omega, by go_num, HR.out, hbel.setCell hbg _, by rw [← HZ.out]; simp, fun b hb => by rw [Go.heap_setCell_other _ _ _ _ (by show b ≠ g; exact hb)]; exact HOT.out b hb⟩
      case measure => simp [intOf]; omega
    · go_wp2
      go_end0
      have : k = n := by omega
      subst this
      exact ⟨rfl, hown, hbel, hsz, HOT.out⟩

end Go.Proofs.YtbkcenpohcjgnabDoor
