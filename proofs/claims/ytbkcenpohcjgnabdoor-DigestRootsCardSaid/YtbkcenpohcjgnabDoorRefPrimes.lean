import Derived.Test.YtbkcenpohcjgnabDoorRefRoot
import Derived.Laws.AppendOwnNone
namespace Go.Proofs.YtbkcenpohcjgnabDoor
open Go.RowKit
open Num
set_option linter.unusedVariables false
set_option linter.unusedSimpArgs false

theorem prL_bd : ∀ p : Nat, ∀ q ∈ prL p, 2 ≤ q ∧ q < p
  | 0, q, h => by simp [prL] at h
  | p + 1, q, h => by
    rw [prL] at h
    split at h
    · simp at h
    · rename_i hp
      split at h
      · rcases List.mem_append.1 h with h | h
        · have := prL_bd p q h; omega
        · simp only [List.mem_singleton] at h; omega
      · have := prL_bd p q h; omega
theorem prL_succ {p : Nat} (h : 2 ≤ p) : prL (p + 1) = if (prL p).all (fun q => p % q != 0) then prL p ++ [p] else prL p := by
  show (if p < 2 then [] else if (prL p).all (fun q => p % q != 0) then prL p ++ [p] else prL p) = _
  rw [if_neg (by omega)]

set_option maxRecDepth 100000 in
set_option maxHeartbeats 2000000 in
theorem primes_any (w : World) :
    Calls Tryd.prog 39 #[.int .i64 64] w fun e w' => ∃ v', e = .returned v' ∧ DSl w' v' (prL 312) ∧ Below w.heap.size w w' := by
  obtain ⟨i0, hi, hz0, hz1, hz2⟩ := info_parts Tryd.info3
  go_enter Tryd.func39, Tryd.ntmps39
  go_wp2
  go_loopw [3, 4] (fun lv pv wr => ∃ p : Nat, 2 ≤ p ∧ p ≤ 312 ∧ pv = .int .i64 p ∧ wr.ownsRow w.heap.size 3 1 lv (prL p).length ((prL p).map intV) ∧ Below w.heap.size w wr) (fun _ pv _ => 312 - (intOf pv).toNat)
  case atStart => exact ⟨2, by omega, by omega, rfl, ⟨rfl, .inl ⟨rfl, rfl⟩⟩, Below.refl _ _⟩
  case round =>
    obtain ⟨p, hp2, hp, rfl, hown, hbel⟩ := hrel
    have hN : (prL p).length ≤ 64 := by have := prL_mono' hp; rw [prL_len] at this; exact this
    obtain ⟨a, cap, hv, hac, hcm⟩ : ∃ a cap, u3 = .slice a (prL p).length cap ∧ (prL p).length ≤ cap ∧ cap ≤ maxLen := by
      rcases hown.2 with ⟨h1, h2⟩ | ⟨g, cap, cur, h1, _, _, h2, h3, _⟩
      · exact ⟨none, 0, by rw [h1, h2], by omega, by unfold maxLen; omega⟩
      · exact ⟨_, cap, h1, h2, h3⟩
    subst hv
    unfold maxLen at hcm
    have HOW := hide hown
    have HBL := hide hbel
    have hszr := hbel.size
    have HSU := hide (prL_succ hp2)
    have HBD := hide (prL_bd p)
    by_cases hlt : (prL p).length < 64
    · have hp311 : p < 312 := by
        by_cases h : p = 312
        · subst h; rw [prL_len] at hlt; omega
        · omega
      generalize hL : prL p = L at *
      clear hown hbel hL
      go_wp2
      go_loopw [5, 6] (fun okv iv wx => ∃ j : Nat, j ≤ L.length ∧ iv = .int .i64 j ∧ okv = .bool ((L.take j).all (fun q => p % q != 0)) ∧ wx = wr) (fun _ iv _ => L.length - (intOf iv).toNat)
      case atStart => exact ⟨0, Nat.zero_le _, rfl, rfl, rfl⟩
      case round =>
        obtain ⟨j, hj, rfl, rfl, rfl⟩ := hrel
        by_cases hltj : j < L.length
        · obtain ⟨g, hg⟩ : ∃ g, a = some ⟨g, 0, none⟩ := by
            rcases HOW.out.2 with ⟨h1, h2⟩ | ⟨g, cap, cur, h1, _⟩
            · omega
            · simp only [Value.slice.injEq] at h1; exact ⟨g, h1.1⟩
          subst hg
          have hc := HOW.out.cellAt j (by omega)
          rw [map_intV_getD hltj] at hc
          obtain ⟨hx2, hxp⟩ := HBD.out _ (mem_getD hltj)
          have hall : (L.take (j + 1)).all (fun q => p % q != 0) = ((L.take j).all (fun q => p % q != 0) && (p % L.getD j 0 != 0)) := by
            have e : L.take (j + 1) = L.take j ++ [L.getD j 0] := by
              rw [List.take_succ_eq_append_getElem hltj]; simp [List.getD, hltj]
            rw [e, List.all_append]; simp
          have HAL := hide hall
          clear hall
          generalize L.getD j 0 = x at *
          generalize (L.take j).all (fun q => p % q != 0) = bb at *
          obtain ⟨r, hr⟩ : ∃ r, p % x = r := ⟨_, rfl⟩
          rw [hr] at HAL
          have hr1 : (p : Int) % (x : Int) = (r : Int) := by rw [← hr]; simp
          have hr2 : Int.tmod (p : Int) (x : Int) = (r : Int) := by rw [← hr]; exact Int.ofNat_tmod p x |>.symm
          have hxI : ¬ (x : Int) = 0 := by omega
          have hrlt : r < x := by rw [← hr]; exact Nat.mod_lt _ (by omega)
          have hltI : (j : Int) < (L.length : Int) := by omega
          clear hr
          by_cases hr0 : r = 0
          · subst hr0
            go_wp2
            go_roundw
            case rel => exact ⟨j + 1, by omega, by go_num, by rw [HAL.out]; simp, by trivial⟩
            case measure => simp [intOf]; omega
          · have hr0I : ¬ (r : Int) = 0 := by omega
            go_wp2
            go_roundw
            case rel => exact ⟨j + 1, by omega, by go_num, by rw [HAL.out]; simp [hr0], by trivial⟩
            case measure => simp [intOf]; omega
        · have hjL : j = L.length := by omega
          subst hjL
          rw [List.take_of_length_le (Nat.le_refl _)]
          by_cases hb : L.all (fun q => p % q != 0) = true
          · rw [hb]
            rw [if_pos hb] at HSU
            have HO : Hid (∀ q, (Value.slice a L.length cap).ownBlock = some q → w.heap.size ≤ q) := fun q hq => (HOW.out.lt q hq).1
            have how := HOW.out
            clear hb hltj hj
            go_wp2_with (at_builtin; refine wpList_append_own _ rfl (.tmp 27) (.tmp 29) 23 rfl w.heap.size 3 i0 (.int .i64 0) 1 8 Tryd.underlying23 hi hz0 hz1 hz2 rfl (by decide) _ _ _ rfl (how.alloc _) ⟨wr.heap.size, 0, none⟩ 1 1 [.int .i64 (p : Int)] rfl rfl (cell_one_new _ _ _) (by simp [Value.oneCell']) (by unfold maxLen; omega) (by omega) (by simp; omega) ?_)
            intro v' w1 hown' hg' _
            have R : Hid (w1.ownsRow w.heap.size 3 1 v' (prL (p + 1)).length ((prL (p + 1)).map intV)) := by
              rw [HSU.out, List.length_append, List.map_append]; exact hown'
            have RB : Hid (Below w.heap.size w w1) := (HBL.out.alloc hszr _).grown hg' (by simp; omega) HO.out
            clear hown' hg' how HO
            go_wp2
            go_roundw
            case rel => exact ⟨p + 1, by omega, by omega, by go_num, R.out, RB.out⟩
            case measure => simp [intOf]; omega
          · rw [if_neg hb] at HSU
            have hbf : L.all (fun q => p % q != 0) = false := by simpa using hb
            rw [hbf]
            have R : Hid (wr.ownsRow w.heap.size 3 1 (.slice a L.length cap) (prL (p + 1)).length ((prL (p + 1)).map intV)) := by
              rw [HSU.out]; exact HOW.out
            clear hb hbf hltj hj
            go_wp2
            go_roundw
            case rel => exact ⟨p + 1, by omega, by omega, by go_num, R.out, HBL.out⟩
            case measure => simp [intOf]; omega
    · have hp312 : p = 312 := by
        by_cases h : p = 312
        · exact h
        · have := prL_mono' (show p ≤ 311 by omega)
          rw [prL_len'] at this
          omega
      subst hp312
      have HD := hide (dsl_of_own HOW.out rfl (by rw [prL_len]; decide) (by rw [prL_len]; decide))
      have hl64 := prL_len
      generalize hL : prL 312 = L at *
      have HLE := hide hL
      clear hL
      clear hown hbel hlt
      go_wp2
      go_ret
      exact ⟨_, rfl, by rw [HLE.out]; exact HD.out, HBL.out⟩
end Go.Proofs.YtbkcenpohcjgnabDoor
