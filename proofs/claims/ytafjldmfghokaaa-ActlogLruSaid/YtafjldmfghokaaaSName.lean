import Derived.Test.YtafjldmfghokaaaSLruB
import Derived.Laws.IdiomStrings
namespace Go.Proofs.Ytafjldmfghokaaa.St
open Go.RowKit Go.Sort
set_option linter.unusedVariables false
set_option linter.unusedSimpArgs false
set_option maxRecDepth 20000

/-- what is left of a number when i digits are laid -/
def NLeft (k : Int) (i : Nat) (kk : Int) : Prop := kk.natAbs = k.natAbs / 10 ^ i ∧ (0 ≤ k → 0 ≤ kk) ∧ (k < 0 → kk ≤ 0)
theorem NLeft.start (k : Int) : NLeft k 0 k := ⟨by simp, id, fun h => by omega⟩
theorem NLeft.ok {k kk : Int} {i : Nat} (hk : i64ok k) (h : NLeft k i kk) : i64ok kk := by
  obtain ⟨h1, h2, h3⟩ := h
  have h4 : k.natAbs / 10 ^ i ≤ k.natAbs := Nat.div_le_self _ _
  rw [← h1] at h4
  unfold i64ok at *
  by_cases h0 : 0 ≤ k
  · have := h2 h0; omega
  · have := h3 (by omega); omega
theorem NLeft.next {k kk : Int} {i : Nat} (h : NLeft k i kk) : NLeft k (i + 1) (kk.tdiv 10) := by
  obtain ⟨h1, h2, h3⟩ := h
  refine ⟨?_, fun h0 => Int.tdiv_nonneg (h2 h0) (by omega), fun h0 => ?_⟩
  · rw [Int.natAbs_tdiv, h1, Nat.pow_succ]
    exact Nat.div_div_eq_div_mul _ _ _
  · have := Int.tdiv_nonneg (a := -kk) (b := 10) (by have := h3 h0; omega) (by omega)
    rw [Int.neg_tdiv] at this
    omega
theorem NLeft.dig {k kk : Int} {i : Nat} (h : NLeft k i kk) : (kk.tmod 10).natAbs = k.natAbs / 10 ^ i % 10 := by
  rw [Int.natAbs_tmod, h.1]
  rfl
theorem dig_conv (wr : World) (z : Int) (d : Nat) (hd : d < 10) (e : z = 48 + (d : Int)) : (convert 62 9 (.slice (some ⟨wr.heap.size, 0, none⟩) 1 1)).run Try.prog (wr.alloc (.cells #[.int .u8 z] 5)) = .ok (.string ⟨#[UInt8.ofNat (48 + d)]⟩) (wr.alloc (.cells #[.int .u8 z] 5)) := by
  have := run_convert_bytes_back (P := Try.prog) (wr.alloc (.cells #[.int .u8 z] 5)) 62 9 5 ⟨wr.heap.size, 0, none⟩ 1 [UInt8.ofNat (48 + d)] Try.underlying62 Try.underlying5 Try.underlying9 (fun j hj => by
    have hj0 : j = 0 := by simpa using hj
    subst hj0
    have hz : z = (((UInt8.ofNat (48 + d)).toNat : Nat) : Int) := by
      rw [UInt8.toNat_ofNat', Nat.mod_eq_of_lt (by omega), e]
      omega
    have h1 := cell_one_new wr (.int .u8 z) 5 0 (.int .u8 z) rfl
    refine h1.trans ?_
    rw [hz]
    rfl)
  exact this
theorem cat1 (u : UInt8) (l : List UInt8) : (⟨#[u]⟩ : ByteArray) ++ ⟨l.toArray⟩ = ⟨(u :: l).toArray⟩ := by
  apply ByteArray.ext
  simp
def NSt (w : World) (k : Int) (kv ss x : Value) (wr : World) : Prop := ∃ (i : Nat) (kk : Int), i ≤ 20 ∧ kv = .int .i64 kk ∧ NLeft k i kk ∧ ss = .string ⟨(digs k.natAbs i).toArray⟩ ∧ x = .int .i64 (i : Int) ∧ Below w.heap.size w wr
set_option maxHeartbeats 1000000 in
theorem name_any (w : World) (k : Int) (hk : i64ok k) :
    Calls Try.prog 44 #[.int .i64 k] w fun e w' => e = .returned (.string (nm k)) ∧ Below w.heap.size w w' := by
  have HK := hide hk
  clear hk
  go_enter Try.func44, Try.ntmps44
  go_wp2_with fail
  go_loopw [0, 3, 5] (fun kv ss x wr => NSt w k kv ss x wr) (fun _ _ x _ => 20 - (intOf x).toNat)
  case atStart => exact ⟨0, k, by omega, rfl, NLeft.start k, rfl, rfl, Below.refl _ _⟩
  case round =>
    obtain ⟨i, kk, hin, rfl, hnl, rfl, rfl, hbe⟩ := hrel
    have HBE : Hid (∀ o, Below w.heap.size w (wr.alloc o)) := hide fun o => hbe.alloc hbe.size o
    by_cases hlt : i < 20
    · obtain ⟨ho1, ho2⟩ := hnl.ok HK.out
      have hdg := hnl.dig
      have HNX := hide hnl.next
      have hdl : k.natAbs / 10 ^ i % 10 < 10 := Nat.mod_lt _ (by decide)
      have HDG : Hid (digs k.natAbs (i + 1) = (48 + UInt8.ofNat (k.natAbs / 10 ^ i % 10)) :: digs k.natAbs i) := hide (by
        have : UInt8.ofNat (48 + k.natAbs / 10 ^ i % 10) = 48 + UInt8.ofNat (k.natAbs / 10 ^ i % 10) := by simp
        rw [← this]; rfl)
      have hln : (digs k.natAbs i).length ≤ 20 := by rw [digs_len]; omega
      clear hnl hbe HK
      generalize k.natAbs / 10 ^ i % 10 = d at *
      by_cases hd : kk.tmod 10 < 0
      · have hcv := dig_conv wr (48 + -kk.tmod 10) d hdl (by omega)
        go_wp2_with fail
        go_roundw
        case rel => exact ⟨i + 1, _, by omega, rfl, HNX.out, by rw [HDG.out]; exact congrArg Value.string (cat1 _ _), by go_num, HBE.out _⟩
        case measure => simp [intOf]; omega
      · have hcv := dig_conv wr (48 + kk.tmod 10) d hdl (by omega)
        go_wp2_with fail
        go_roundw
        case rel => exact ⟨i + 1, _, by omega, rfl, HNX.out, by rw [HDG.out]; exact congrArg Value.string (cat1 _ _), by go_num, HBE.out _⟩
        case measure => simp [intOf]; omega
    · have ei : i = 20 := by omega
      subst ei
      have HN : Hid (nm k = ⟨(if k < 0 then 45 :: digs k.natAbs 20 else digs k.natAbs 20).toArray⟩) := hide (by
        unfold nm
        rw [if_pos]
        have := HK.out
        unfold i64ok at this
        omega)
      have hln : (digs k.natAbs 20).length ≤ 20 := by rw [digs_len]; omega
      generalize digs k.natAbs 20 = l at *
      by_cases h0 : k < 0
      · rw [if_pos h0] at HN
        clear hnl HK
        go_wp2_with fail
        generalize hs : ((⟨#[45]⟩ : ByteArray) ++ ⟨l.toArray⟩) = str
        go_ret
        exact ⟨by rw [HN.out, ← cat1, hs]; rfl, hbe⟩
      · rw [if_neg h0] at HN
        clear hnl HK
        go_wp2_with fail
        go_ret
        exact ⟨by rw [HN.out]; rfl, hbe⟩
end Go.Proofs.Ytafjldmfghokaaa.St
