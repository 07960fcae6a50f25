import Derived.Test.YtkjaaknlhmneoabDoorMtSame
import Derived.Test.YtkjaaknlhmneoabDoorMtRnd
namespace Go.Proofs.YtkjaaknlhmneoabDoor
open Go.RowKit Go.Lib
open Num
set_option linter.unusedVariables false
set_option linter.unusedSimpArgs false
set_option maxRecDepth 20000

set_option maxHeartbeats 1000000 in
theorem whole_yes (w : World) (v : Value) (s : Sup) (hOk : s.Ok) (hv : BSl w v s.enc) (hT : Tabs w) : Calls Tryd.prog 12 #[v] w fun e w' => e = .returned (.bool true) ∧ Below w.heap.size w w' := by
  have HEN := Sup.enc_len hOk
  have HHL := Sup.head_len hOk
  have HU := hide (uns_enc hOk)
  have HV := hide hv
  have HT := hide hT
  have HSE := hide fun x hx => seal_yes x s hOk.wf hOk.ok hx
  obtain ⟨q, nz, g0, g1, g2, g3, f, b', k, m', hs, hn1, hn2, hnt, hva, hr⟩ := hOk.parts
  rw [hnt] at HEN HHL
  obtain ⟨m, hm⟩ : ∃ m, nz = m + 32 := ⟨nz - 32, by omega⟩
  subst hm
  have hTk : s.enc.take m = s.head := take_app (by omega)
  have hDp : s.enc.drop m = shaL s.head := drop_app (by omega)
  obtain ⟨a, cap, rfl, p1, p2, p3, p4, p5⟩ := hv
  obtain ⟨b, off, rfl, hd⟩ := p5 (by omega)
  rw [HEN] at p1 HV ⊢
  unfold maxLen at p2
  have HD : Hid (∀ i, i < m + 32 → w.cell? ⟨b, off + i, none⟩ = some (.int .u8 (s.enc.getD i 0 : Nat))) := hide fun i hi => hd i (by omega)
  have HBY := hide p4
  have HNT := hide hnt
  have HVA := hide hva
  have hlb : b < w.heap.size := World.block_lt_of_cell? w _ (hd 0 (by omega))
  have HEN' := hide HEN
  have HHL' := hide HHL
  have HTK := hide hTk
  have HDP := hide hDp
  have HBD : Hid (∀ wx, Below w.heap.size w wx → BSl wx (.slice (some ⟨b, off, none⟩) m cap) s.head) := hide fun wx hb => by
    refine ⟨_, cap, by rw [HHL]; rfl, by rw [HHL]; omega, by unfold maxLen; omega, by simp, s.head_lt, fun _ => ⟨b, off, rfl, fun i hi => ?_⟩⟩
    rw [HHL] at hi
    rw [hb.cell (p := ⟨b, off + i, none⟩) hlb, HD.out i (by omega), ← hTk]
    simp [List.getD, show i < m by omega]
  have HCX : Hid (∀ w5, Below w.heap.size w w5 → ∀ i, i < 32 → ∃ x, x < 256 ∧ (∀ n, ((w5.alloc (.cells ((shaL s.head).map byteV).toArray 43)).drewN n).cell? ⟨b, off + (m + i), none⟩ = some (.int .u8 (x : Nat))) ∧ (∀ n, ((w5.alloc (.cells ((shaL s.head).map byteV).toArray 43)).drewN n).cell? ⟨w5.heap.size, i, none⟩ = some (.int .u8 (x : Nat)))) := hide fun w5 hb i hi => by
    have hi' : i < (shaL s.head).length := by rw [shaL_len]; exact hi
    refine ⟨(shaL s.head).getD i 0, ?_, fun n => ?_, fun n => ?_⟩
    · rw [show (shaL s.head).getD i 0 = (shaL s.head)[i] by simp [List.getD, hi']]
      exact shaL_lt _ _ (List.getElem_mem _)
    · show (w5.alloc _).cell? _ = _
      rw [(hb.alloc hb.size _).cell (p := ⟨b, off + (m + i), none⟩) hlb, HD.out (m + i) (by omega), ← hDp]
      simp [List.getD]
    · show (w5.alloc _).cell? _ = _
      rw [cell_of_row _ _ i _ _ _ (Go.heap_alloc_new w5 _), List.getElem?_toArray, map_byteV_getD hi']
  obtain ⟨k1, k2, k3⟩ := sum_shape s.head
  have HK1 := hide k1
  have HK2 := hide k2
  have HK3 := hide k3
  clear k1 k2 k3
  unfold SealPost at HSE
  rw [hva, hnt] at HSE
  clear hOk hT p3 p4 p5 hd HEN HHL hTk hDp hs hnt hva hr
  go_enter Tryd.func12, Tryd.ntmps12
  go_wp2_with (first
    | (go_at_call 10; refine (unseal_any _ _ s.enc HV.out HT.out).mono ?_; rintro e w2 ⟨he2, hb2⟩; rw [HU.out] at he2; dsimp only at he2; rw [HVA.out] at he2; subst he2; have HB2 : Hid (∀ o, Below w.heap.size w (w2.alloc o)) := hide (fun o => hb2.alloc hb2.size o); clear hb2)
    | (go_at_call 8; refine (HSE.out _ (HT.out.below (HB2.out _))).mono ?_; rintro e w3 ⟨g, rfl, hr3, hb3⟩; have HB3 : Hid (Below w.heap.size w w3) := hide ((HB2.out _).trans (hb3.mono (HB2.out _).size)); have HL3 : Hid (BSl w3 (.slice (some ⟨g, 0, none⟩) (m + 32) (m + 32)) s.enc) := hide (by have hx := hr3.own.bsl; rw [HEN'.out] at hx; exact hx); unfold gsl; clear hr3 hb3)
    | (go_at_call 14; refine (same_eq _ _ _ s.enc HL3.out (HV.out.below HB3.out)).mono ?_; rintro e w4 ⟨rfl, hb4⟩; have HB4 : Hid (Below w.heap.size w w4) := hide (HB3.out.trans (hb4.mono HB3.out.size)); clear hb4)
    | (go_at_call 15; refine (sum256_any _ s.head w4 (by rw [HHL'.out]; omega) (HT.out.below HB4.out) (HBD.out _ HB4.out)).mono ?_; rintro e w5 ⟨rfl, hb5⟩; have HB5 : Hid (Below w.heap.size w w5) := hide (HB4.out.trans (hb5.mono HB4.out.size)); have HCE : Hid (∀ i, i < 32 → ∃ x, x < 256 ∧ (∀ n, ((w5.alloc (.cells ((shaL s.head).map byteV).toArray 43)).drewN n).cell? ⟨b, off + (m + i), none⟩ = some (.int .u8 (x : Nat))) ∧ (∀ n, ((w5.alloc (.cells ((shaL s.head).map byteV).toArray 43)).drewN n).cell? ⟨w5.heap.size, i, none⟩ = some (.int .u8 (x : Nat)))) := hide (HCX.out w5 HB5.out); clear hb5; generalize ((shaL s.head).map byteV).toArray = oa at *)
    | refine wpList_alloc_as rfl 43 rfl (.agg zero32) zero32 Tryd.zero32 rfl ?_
    | (refine wpList_store_row rfl 43 _ _ rfl w5.heap.size oa (by first | rfl | simp [Act.eval, Act.put]) (by first | rfl | simp [Act.eval, Act.put]) 43 zero32 (Go.heap_alloc_new w5 _) HK1.out HK2.out HK3.out ?_; rw [World.setRow_alloc_new]))
  go_loopw [8] (fun i wr => ∃ j : Nat, j ≤ 32 ∧ i = .int .i64 j ∧ ∃ n, wr = (w5.alloc (.cells oa 43)).drewN n) (fun i _ => 32 - (intOf i).toNat)
  case atStart => exact ⟨0, Nat.zero_le _, rfl, 0, rfl⟩
  case round =>
    obtain ⟨j, hj, rfl, n, rfl⟩ := hrel
    by_cases hlt : j < 32
    · obtain ⟨x, hx, d1, d2⟩ := HCE.out j hlt
      have d1 := d1 n
      have d2 := d2 n
      have e1 : (m : Int) + 32 - 32 + (j : Int) = ((m + j : Nat) : Int) := by push_cast; omega
      go_wp2
      go_quiet (fail)
      go_wp2
      go_roundw
      case rel => exact ⟨j + 1, by omega, by go_num, _, rfl⟩
      case measure => simp [intOf]; omega
    · have hjn : j = 32 := by omega
      subst hjn
      go_wp2
      go_ret
      exact ⟨rfl, below_drewN (HB5.out.alloc HB5.out.size _) n⟩
end Go.Proofs.YtkjaaknlhmneoabDoor
