import Derived.Test.YtlpmpicmpklaoaaDLaw5
import Derived.Deep.RegionHeld3
namespace Go.Proofs.Ytlpmpicmpklaoaa
open Go.RowKit Go.Maps
set_option linter.unusedVariables false
set_option linter.unusedSimpArgs false
set_option maxRecDepth 20000

/-- no later write of the list to the block of the i-th -/
def ats (ps : List PutV) (nb j : Nat) : Nat := (ps.map (·.at_ nb)).getD j 0
theorem ats_get {ps : List PutV} {nb j : Nat} (h : j < ps.length) : ats ps nb j = ps[j].at_ nb := by simp [ats, List.getD, h]
def lastOf (ps : List PutV) (i nb : Nat) : Bool := decide (∀ j, j < ps.length → i < j → ats ps nb j ≠ ats ps nb i)

theorem PSl.at_ {w : World} {v : Value} {ps : List PutV} (h : PSl w v ps) {i : Nat} (hi : i < ps.length) : ∃ b off cap, v = .slice (some ⟨b, off, none⟩) ps.length cap ∧ ps.length ≤ cap ∧ cap ≤ maxLen ∧ BSl w ps[i].tv ps[i].tl ∧ i64ok ps[i].block ∧
    ∀ j (h : j < ps.length), w.cell? ⟨b, off + j * 3, none⟩ = some (.int .i64 ps[j].block) ∧ w.cell? ⟨b, off + j * 3 + 1, none⟩ = some ps[j].tv ∧ w.cell? ⟨b, off + j * 3 + 2, none⟩ = some (.bool ps[j].past) := by
  obtain ⟨a, cap, rfl, hl, hm, hall, hcell⟩ := h
  obtain ⟨b, off, rfl, hc⟩ := hcell (by omega)
  obtain ⟨h1, h2⟩ := hall ps[i] (List.getElem_mem hi)
  exact ⟨b, off, cap, rfl, hl, hm, h1, h2, hc⟩

def blk (x : Int) (nb : Nat) : Nat := (x % (nb : Int)).toNat
theorem block_gen (nb : Nat) (h1 : 1 ≤ nb) (h2 : nb ≤ 8192) (x : Int) (tv : Value) (pa : Bool) (wr : World) (hx : i64ok x) :
    Calls Try.prog 12 #[.agg #[.int .i64 x, tv, .bool pa], .int .i64 (nb : Int)] wr fun e w' => e = .returned (.int .i64 (blk x nb : Nat)) ∧ Below wr.heap.size wr w' := block_any wr ⟨x, tv, [], pa⟩ nb h1 h2 hx

set_option maxHeartbeats 1000000 in
theorem last_any (w : World) (v : Value) (ps : List PutV) (hv : PSl w v ps) (i nb : Nat) (hi : i < ps.length) (h1 : 1 ≤ nb) (h2 : nb ≤ 8192) :
    Calls Try.prog 31 #[v, .int .i64 (i : Int), .int .i64 (nb : Int)] w fun e w' => e = .returned (.bool (lastOf ps i nb)) ∧ Below w.heap.size w w' := by
  obtain ⟨b, off, cap, rfl, hl, hm, hbi, hii, hc⟩ := hv.at_ hi
  unfold maxLen at hm
  obtain ⟨y0, y1, y2⟩ := hc i hi
  have HC := hide hc
  have HV := hide hv
  clear hc hv
  go_enter Try.func31, Try.ntmps31
  go_wp2
  go_loopw [7] (fun x wr => ∃ n : Nat, i < n ∧ n ≤ ps.length ∧ x = .int .i64 (n : Int) ∧ Below w.heap.size w wr ∧ ∀ j, j < n → i < j → ats ps nb j ≠ ats ps nb i) (fun x _ => ps.length - (intOf x).toNat)
  case atStart => exact ⟨i + 1, by omega, by omega, by go_num, Below.refl _ _, fun j h1 h2 => by omega⟩
  case round =>
    obtain ⟨n, hin, hn, rfl, hb, hal⟩ := hrel
    have HAL := hide hal
    clear hal
    by_cases hlt : n < ps.length
    · obtain ⟨x0, x1, x2⟩ := HC.out n hlt
      obtain ⟨-, -, -, -, -, -, -, hnn, -⟩ := HV.out.at_ hlt
      have HE : Hid (ats ps nb n = ps[n].at_ nb ∧ ats ps nb i = ps[i].at_ nb) := hide ⟨ats_get hlt, ats_get hi⟩
      generalize ps[n] = P at *
      generalize ps[i] = Q at *
      have HBG := hide (block_gen nb h1 h2)
      have HK : Hid (∀ wr, Below w.heap.size w wr → wr.cell? ⟨b, off + n * 3, none⟩ = some (.int .i64 P.block) ∧ wr.cell? ⟨b, off + n * 3 + 1, none⟩ = some P.tv ∧ wr.cell? ⟨b, off + n * 3 + 2, none⟩ = some (.bool P.past) ∧ wr.cell? ⟨b, off + i * 3, none⟩ = some (.int .i64 Q.block) ∧ wr.cell? ⟨b, off + i * 3 + 1, none⟩ = some Q.tv ∧ wr.cell? ⟨b, off + i * 3 + 2, none⟩ = some (.bool Q.past)) := hide fun wr hb =>
        ⟨by rw [hb.cell (World.block_lt_of_cell? w _ x0)]; exact x0, by rw [hb.cell (World.block_lt_of_cell? w _ x1)]; exact x1, by rw [hb.cell (World.block_lt_of_cell? w _ x2)]; exact x2, by rw [hb.cell (World.block_lt_of_cell? w _ y0)]; exact y0, by rw [hb.cell (World.block_lt_of_cell? w _ y1)]; exact y1, by rw [hb.cell (World.block_lt_of_cell? w _ y2)]; exact y2⟩
      have HKK : Hid (∀ wr w2, Below w.heap.size w wr → Below wr.heap.size wr w2 → Below w.heap.size w w2) := hide fun wr w2 a b => a.trans (b.mono a.size)
      obtain ⟨z0, z1, z2, z3, z4, z5⟩ := HK.out _ hb
      clear x0 x1 x2 y0 y1 y2
      go_wp2_with fail
      go_region_held3 (fun w' => Below w.heap.size w w' ∧ w'.cell? ⟨b, off + n * 3, none⟩ = some (.int .i64 P.block) ∧ w'.cell? ⟨b, off + n * 3 + 1, none⟩ = some P.tv ∧ w'.cell? ⟨b, off + n * 3 + 2, none⟩ = some (.bool P.past) ∧ w'.cell? ⟨b, off + i * 3, none⟩ = some (.int .i64 Q.block) ∧ w'.cell? ⟨b, off + i * 3 + 1, none⟩ = some Q.tv ∧ w'.cell? ⟨b, off + i * 3 + 2, none⟩ = some (.bool Q.past))
        (first | exact ⟨by assumption, by assumption, by assumption, by assumption, by assumption, by assumption, by assumption⟩ | exact ⟨Below.drew hb, z0, z1, z2, z3, z4, z5⟩ | exact ⟨Below.drew (by assumption), HK.out _ (Below.drew (by assumption))⟩)
        (first
          | (go_at_call 12; refine (HBG.out _ _ _ _ (by first | exact hnn | exact hii)).mono ?_; rintro e wa ⟨rfl, hba⟩; have hbw := HKK.out _ wa (by first | assumption | exact Below.drew (by assumption)) hba; obtain ⟨q0, q1, q2, q3, q4, q5⟩ := HK.out wa hbw; clear hba))
      by_cases heq : blk P.block nb = blk Q.block nb
      · have HLO : Hid (lastOf ps i nb = false) := hide (decide_eq_false fun h => h n hlt hin (by rw [HE.out.1, HE.out.2]; exact heq))
        rw [heq]
        go_wp2
        go_ret
        exact ⟨by rw [HLO.out]; rfl, by assumption⟩
      · have hne : ¬ ((blk P.block nb : Nat) : Int) = ((blk Q.block nb : Nat) : Int) := by omega
        generalize ((blk P.block nb : Nat) : Int) = xp at *
        generalize ((blk Q.block nb : Nat) : Int) = xq at *
        go_wp2
        go_roundw
        case rel => exact ⟨n + 1, by omega, by omega, by go_num, by assumption, fun j hj hij => by
          by_cases hjn : j = n
          · rw [hjn, HE.out.1, HE.out.2]; exact heq
          · exact HAL.out j (by omega) hij⟩
        case measure => simp [intOf]; omega
    · have HLO : Hid (lastOf ps i nb = true) := hide (decide_eq_true fun j h1 h2 => HAL.out j (by omega) h2)
      go_wp2
      go_ret
      exact ⟨by rw [HLO.out]; rfl, hb⟩
end Go.Proofs.Ytlpmpicmpklaoaa
