import Derived.Test.YtnjlbkbhlcccmaaDoorBFrom
namespace Go.Proofs.YtnjlbkbhlcccmaaDoor
open Go.RowKit
set_option linter.unusedVariables false
set_option linter.unusedSimpArgs false
set_option maxRecDepth 20000

theorem wd_or (A B k : Nat) : wd (A ||| B) k = wd A k ||| wd B k := by
  apply Nat.eq_of_testBit_eq
  intro i
  rw [Nat.testBit_or, testBit_wd, testBit_wd, testBit_wd, Nat.testBit_or]
  cases decide (i < 64) <;> simp
theorem valW_snoc : ∀ (l : List Nat) (x : Nat), valW (l ++ [x]) = valW l + 2 ^ (64 * l.length) * x
  | [], x => by simp [valW]
  | y :: r, x => by
    simp only [List.cons_append, valW, valW_snoc r x, List.length_cons]
    rw [show 64 * (r.length + 1) = 64 * r.length + 64 by omega, Nat.pow_add, show (2 : Nat) ^ 64 = 18446744073709551616 from rfl, Nat.mul_add]
    rw [Nat.mul_comm (2 ^ (64 * r.length)) 18446744073709551616, Nat.mul_assoc, Nat.add_assoc]
/-- the words that have come -/
def valT (l : List Nat) (k : Nat) : Nat := valW (l.take k)
theorem take_lt {l : List Nat} (hl : ∀ b ∈ l, b < 18446744073709551616) (k : Nat) : ∀ b ∈ l.take k, b < 18446744073709551616 := fun b hb => hl b (List.mem_of_mem_take hb)
theorem wd_valT {l : List Nat} (hl : ∀ b ∈ l, b < 18446744073709551616) (k j : Nat) : wd (valT l k) j = if j < k then l.getD j 0 else 0 := by
  unfold valT
  rw [wd_valW _ _ (take_lt hl k)]
  by_cases h : j < k
  · simp [List.getD, h]
  · rw [if_neg h, List.getD, List.getElem?_eq_none (by simp; omega)]; rfl
theorem testBit_valT {l : List Nat} (hl : ∀ b ∈ l, b < 18446744073709551616) (k i : Nat) : (valT l k).testBit i = (decide (i / 64 < k) && (valW l).testBit i) := by
  rw [bit_of_wd, wd_valT hl, bit_of_wd (valW l), wd_valW _ _ hl]
  by_cases h : i / 64 < k <;> simp [h]
theorem valT_lt {l : List Nat} {n : Nat} (hl : ∀ b ∈ l, b < 18446744073709551616) (h : valW l < 2 ^ n) (k : Nat) : valT l k < 2 ^ n := lt_of_bits fun i hi => by
  rw [testBit_valT hl, bit_ge h hi]; simp
theorem valT_all {l : List Nat} : valT l l.length = valW l := by simp [valT]
theorem valT_zero {l : List Nat} : valT l 0 = 0 := by simp [valT, valW]

/-- how many bits of V are not in B, below N -/
def news (B V N : Nat) : Nat := cnt (fun i => V.testBit i && !B.testBit i) N
theorem news_le (B V N : Nat) : news B V N ≤ N := cnt_le _ _
theorem news_step {l : List Nat} (hl : ∀ b ∈ l, b < 18446744073709551616) (B k : Nat) :
    news B (valW l) (64 * (k + 1)) = news B (valW l) (64 * k) + cnt (wd (B ||| valT l k) k ^^^ (wd (B ||| valT l k) k ||| l.getD k 0)).testBit 64 := by
  unfold news
  rw [show 64 * (k + 1) = 64 * k + 64 by omega, cnt_add]
  congr 1
  apply cnt_congr
  intro i hi
  have e : wd (B ||| valT l k) k = wd B k := by rw [wd_or, wd_valT hl, if_neg (by omega)]; simp
  rw [e, Nat.testBit_xor, Nat.testBit_or, testBit_wd, ← wd_valW l k hl, testBit_wd]
  simp only [hi, decide_true, Bool.true_and]
  cases B.testBit (64 * k + i) <;> cases (valW l).testBit (64 * k + i) <;> rfl
theorem news_all {B V n : Nat} (hV : V < 2 ^ n) : news B V (64 * nW n) = news B V n := by
  unfold news
  obtain ⟨d, hd⟩ : ∃ d, 64 * nW n = n + d := ⟨64 * nW n - n, by unfold nW; omega⟩
  rw [hd, cnt_add, cnt_zero d (fun i _ => by rw [bit_ge hV (by omega)]; rfl)]
  rfl

structure MInv (w wr : World) (L : BL) (n B : Nat) (l : List Nat) (k : Nat) : Prop where
  hk : k ≤ l.length
  rep : BRep wr L n (B ||| valT l k)
  chg : Chg L.U w wr
  sz : wr.heap.size = w.heap.size

set_option maxHeartbeats 1000000 in
theorem Merge_any {w : World} {L : BL} {n B : Nat} {v : Value} {l : List Nat} (h : BRep w L n B) (hv : WSl w v l) (hap : ∀ g, blockOf v = some g → ¬ L.U g) (he : cwErr n l = 0) :
    Calls Tryd.prog 25 #[PB L, v] w fun e w' => e = .returned (.tuple #[.int .i64 ((news B (valW l) n : Nat) : Int), .int .i64 0]) ∧ BRep w' L n (B ||| valW l) ∧ Chg L.U w w' ∧ w'.heap.size = w.heap.size := by
  have hcw := checkWords_any h.n1 h.n2 hv
  rw [he] at hcw
  have HC := hide hcw
  clear hcw
  have hl := hv.lt
  obtain ⟨hlen, hV⟩ := valW_listed h.n1 hl he
  have c0 := h.c0
  have hn := h.n2
  have hW : nW n ≤ 1024 := by unfold nW; omega
  have HV := hide hv
  have START : Hid (MInv w w L n B l 0) := hide ⟨Nat.zero_le _, by rw [valT_zero, Nat.or_zero]; exact h, Chg.refl _ _, rfl⟩
  have HEND : Hid (news B (valW l) (64 * l.length) = news B (valW l) n) := hide (by rw [hlen]; exact news_all hV)
  have HN0 : Hid (0 = news B (valW l) (64 * 0)) := hide rfl
  have HNL : Hid (∀ k, news B (valW l) (64 * k) ≤ 64 * k) := hide fun k => news_le _ _ _
  have HNS : Hid (∀ k, news B (valW l) (64 * (k + 1)) = news B (valW l) (64 * k) + cnt (wd (B ||| valT l k) k ^^^ (wd (B ||| valT l k) k ||| l.getD k 0)).testBit 64) := hide fun k => news_step hl B k
  obtain ⟨a, cap, rfl, q1, q2, q3, q4, q5⟩ := hv
  obtain ⟨b, off, rfl, hc⟩ := q5 (by rw [hlen]; have := h.n1; unfold nW; omega)
  unfold maxLen at q2
  have hbU : ¬ L.U b := hap b rfl
  have HB := hide h.hB
  have hlen' : l.length ≤ 1024 := by omega
  have HLEN := hide hlen
  have hblt := World.block_lt_of_cell? w _ (hc 0 (by rw [hlen]; have := h.n1; unfold nW; omega))
  dsimp only at hblt
  have HCL := hide hc
  clear hc hlen q3 q4 q5 he h hap
  obtain ⟨N, hN⟩ : ∃ N : Nat → Nat, ∀ k, N k = news B (valW l) (64 * k) := ⟨_, fun _ => rfl⟩
  simp only [← hN] at HNL HNS HN0 HEND
  clear hN
  obtain ⟨len, hlenE⟩ : ∃ len, len = l.length := ⟨_, rfl⟩
  rw [← hlenE] at q1 hlen' HLEN HEND HCL HC
  have HLE := hide hlenE
  rw [← hlenE]
  clear hlenE
  unfold PB at *
  go_enter Tryd.func25, Tryd.ntmps25
  go_wp2_with (go_at_call 55; refine HC.out.mono ?_; rintro e w ⟨rfl, rfl⟩; simp only [Int.natCast_zero])
  go_loopw [7, 21] (fun c i wr => ∃ k : Nat, i = .int .i64 (k : Int) ∧ c = .int .i64 ((N k : Nat) : Int) ∧ MInv w wr L n B l k) (fun c i _ => len - (intOf i).toNat)
  case atStart => exact ⟨0, rfl, by rw [← HN0.out]; rfl, START.out⟩
  case round =>
    clear START c0
    obtain ⟨k, rfl, rfl, hI⟩ := hrel
    have hk := hI.hk
    rw [← HLE.out] at hk
    have hR := hI.rep
    have c1 := hR.c1
    have hNk := HNL.out k
    have HI := hide hI
    by_cases hlt : k < len
    · have hkW : k < nW n := by rw [← HLEN.out]; exact hlt
      have hcl := hR.cl hkW
      have hcv : wr.cell? ⟨b, off + k, none⟩ = some (.int .u64 (l.getD k 0 : Nat)) := by
        rw [World.cell?_of_block (hI.chg.keep b hblt hbU)]; exact HCL.out k hlt
      have hx : l.getD k 0 < 18446744073709551616 := HV.out.getLt k
      have eo := u64_or_nat _ _ (wd_lt (B ||| valT l k) k) hx
      have hxo : wd (B ||| valT l k) k ||| l.getD k 0 < 18446744073709551616 := Nat.or_lt_two_pow (n := 64) (wd_lt _ _) hx
      have hlay := lay_any (B' := B ||| valT l (k + 1)) hR hkW hxo (by rw [wd_or, wd_or, wd_valT hl, wd_valT hl, if_pos (by omega), if_neg (by omega)]; simp) (fun j _ hj => by
        rw [wd_or, wd_or, wd_valT hl, wd_valT hl]
        by_cases hjk : j < k
        · rw [if_pos (by omega), if_pos hjk]
        · rw [if_neg (by omega), if_neg hjk]) (or_lt HB.out (valT_lt hl hV _))
      have HLAY := hide hlay
      have HNS' := hide (HNS.out k)
      have hNk1 := HNL.out (k + 1)
      have hcc := cnt_le (wd (B ||| valT l k) k ^^^ (wd (B ||| valT l k) k ||| l.getD k 0)).testBit 64
      generalize cnt (wd (B ||| valT l k) k ^^^ (wd (B ||| valT l k) k ||| l.getD k 0)).testBit 64 = c at *
      generalize wd (B ||| valT l k) k ||| l.getD k 0 = y at *
      generalize wd (B ||| valT l k) k = u at *
      generalize l.getD k 0 = x at *
      clear hlay hR hI HCL HC HNS HNL HN0 HEND
      unfold PB at HLAY
      generalize nW n = m1 at *
      go_wp2_with (go_at_call 56; refine HLAY.out.mono ?_; rintro e w' ⟨rfl, hrep, hchg, hsz⟩)
      go_roundw
      case rel => exact ⟨k + 1, by go_num, by rw [HNS'.out]; go_num, ⟨by rw [← HLE.out]; omega, hrep, HI.out.chg.trans hchg, hsz.trans HI.out.sz⟩⟩
      case measure => simp [intOf]; omega
    · have ek : k = l.length := by rw [← HLE.out]; omega
      have HK := hide ek
      clear ek hR hI HC HNS HN0 HCL
      go_wp2_with fail
      go_ret2
      have hf := HI.out
      have e2 := HEND.out
      rw [HLE.out, ← HK.out] at e2
      refine ⟨by rw [e2]; rfl, ?_, hf.chg, hf.sz⟩
      have := hf.rep
      rw [HK.out, valT_all] at this
      exact this

theorem Merge_no {w : World} {L : BL} {n B : Nat} {v : Value} {l : List Nat} (h : BRep w L n B) (hv : WSl w v l) (he : cwErr n l ≠ 0) :
    Calls Tryd.prog 25 #[PB L, v] w fun e w' => e = .returned (.tuple #[.int .i64 0, .int .i64 ((cwErr n l : Nat) : Int)]) ∧ w' = w := by
  have hcw := checkWords_any h.n1 h.n2 hv
  have HC := hide hcw
  have c0 := h.c0
  have hn := h.n2
  have hne : ((cwErr n l : Nat) : Int) ≠ 0 := by omega
  have hne' : ((((cwErr n l : Nat)) : Int) != 0) = true := by simpa using he
  clear hcw he h
  generalize cwErr n l = e at *
  unfold PB
  obtain ⟨a, cap, rfl, q1, q2, q3, q4, q5⟩ := hv
  clear q5 q4
  generalize l.length = len at *
  go_enter Tryd.func25, Tryd.ntmps25
  go_wp2_with (go_at_call 55; refine HC.out.mono ?_; rintro e w' ⟨rfl, rfl⟩)
  go_ret2
  exact ⟨rfl, rfl⟩
end Go.Proofs.YtnjlbkbhlcccmaaDoor
