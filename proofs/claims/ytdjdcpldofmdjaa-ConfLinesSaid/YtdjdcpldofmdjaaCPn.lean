import Derived.Test.YtdjdcpldofmdjaaCPt
namespace Go.Proofs.Ytdjdcpldofmdjaa
open Go.RowKit
set_option linter.unusedVariables false
set_option linter.unusedSimpArgs false
set_option maxRecDepth 20000

theorem rdN_le : ∀ (l : List UInt8) (k n : Nat), (rdN l k n).1 ≤ k + l.length
  | [], k, n => by simp [rdN]
  | c :: l, k, n => by
    unfold rdN
    split
    · have := rdN_le l (k + 1) (10 * n + (c.toNat - 48))
      simp only [List.length_cons]
      omega
    · simp
/-- what the take of a part that is a number answers -/
def PTn (w : World) (f o : Nat) (t lead : ByteArray) (r : Nat × Nat) (e : Ending) (w' : World) : Prop :=
  if cp (tx t) (tx lead) < lead.size then e = .returned (.tuple #[.int .i64 (cp (tx t) (tx lead) : Nat), .bool false]) ∧ Below w.heap.size w w'
  else e = .returned (.tuple #[.int .i64 ((lead.size : Int) + (r.1 : Int)), .bool (decide (0 < r.1))]) ∧ Took w w' f o (r.2 : Nat)
set_option maxHeartbeats 2000000 in
theorem ptakeN_any {w : World} {f o : Nat} {x0 : Int} (lead t : ByteArray) (ht : t.size ≤ maxLen) (hl : lead.size ≤ 1000) (hf : w.cell? ⟨f, o, none⟩ = some (.int .i64 x0)) (hz : ∀ W, Below w.heap.size w W → W.frozen? ⟨f, o, none⟩ = false) :
    Calls Try.prog 19 #[.agg #[.string lead, .iface 88 (.agg #[.pointer (some ⟨f, o, none⟩)])], .string t] w (PTn w f o t lead (rdN ((tx t).drop lead.size) 0 0)) := by
  have HT := hide ht
  have HAK := hide fun W => alike_any t lead W ht (by unfold maxLen; omega)
  unfold maxLen at ht
  have HB0 : Hid (Below w.heap.size w (w.alloc (.cells #[.string lead, .iface 88 (.agg #[.pointer (some ⟨f, o, none⟩)])] 46))) := hide ((Below.refl _ _).alloc (Nat.le_refl _) _)
  have HTK : Hid (∀ W, Below w.heap.size w W → Calls Try.prog 73 #[.agg #[.pointer (some ⟨f, o, none⟩)], .string (t.extract lead.size t.size)] W fun e w' => e = .returned (.tuple #[.int .i64 ((rdN ((tx t).drop lead.size) 0 0).1 : Nat), .bool (decide (0 < (rdN ((tx t).drop lead.size) 0 0).1))]) ∧ Took W w' f o ((rdN ((tx t).drop lead.size) 0 0).2 : Nat)) := hide fun W hW => by
    have := ntake_any (w := W) (t.extract lead.size t.size) (by rw [ext_size]; have := HT.out; omega) (cell_bel hW hf) (fun W' h' => hz W' (hW.trans (h'.mono hW.size)))
    rw [ext_drop] at this
    exact this
  have hcl := cp_le_r (tx t) (tx lead)
  have hcl2 := cp_le_l (tx t) (tx lead)
  have hrl := rdN_le ((tx t).drop lead.size) 0 0
  rw [List.length_drop] at hrl
  rw [tx_len] at hcl hcl2 hrl
  have HFB : Hid (f < w.heap.size) := hide (cell_lt hf)
  clear hf hz
  generalize rdN ((tx t).drop lead.size) 0 0 = r at *
  obtain ⟨rl, rv⟩ := r
  dsimp only at HTK hrl
  by_cases hlt : cp (tx t) (tx lead) < lead.size
  · have HSH : Hid (∀ e w', e = .returned (.tuple #[.int .i64 (cp (tx t) (tx lead) : Nat), .bool false]) → Below w.heap.size w w' → PTn w f o t lead (rl, rv) e w') := hide fun e w' h1 h2 => by unfold PTn; rw [if_pos hlt]; exact ⟨h1, h2⟩
    generalize PTn w f o t lead (rl, rv) = POST at *
    generalize cp (tx t) (tx lead) = m at *
    have hlti : (m : Int) < (lead.size : Int) := by omega
    go_enter Try.func19, Try.ntmps19
    go_wp2_with (go_at_call 37; refine (HAK.out _).mono ?_; rintro e w' ⟨rfl, mm, hw'⟩; have HM := hide hw'; have c9 : w'.cell? ⟨w.heap.size, 0, none⟩ = some (.string lead) := (by rw [hw']; exact cell_of_row _ _ _ _ _ _ (Go.heap_alloc_new w _)); clear hw' HAK)
    exact HSH.out _ _ rfl (by rw [HM.out]; exact HB0.out.trans ((drewN_bel _ _).mono HB0.out.size))
  · have hm : cp (tx t) (tx lead) = lead.size := by omega
    have HPO : Hid (PTn w f o t lead (rl, rv) = fun e w' => e = .returned (.tuple #[.int .i64 ((lead.size : Int) + (rl : Int)), .bool (decide (0 < rl))]) ∧ Took w w' f o (rv : Int)) := hide (by funext e w'; unfold PTn; rw [if_neg hlt])
    rw [HPO.out]
    rw [hm] at HAK
    have hkx : lead.size + rl ≤ t.size := by omega
    have hti : (lead.size : Int) ≤ (t.size : Int) := by omega
    clear HPO hlt hm hcl hcl2 hrl
    have hmt := meth_count_take
    go_enter Try.func19, Try.ntmps19
    go_wp2_with (go_at_call 37; refine (HAK.out _).mono ?_; rintro e w' ⟨rfl, mm, hw'⟩; have HM := hide hw'; have c9 : w'.cell? ⟨w.heap.size, 0, none⟩ = some (.string lead) := (by rw [hw']; exact cell_of_row _ _ _ _ _ _ (Go.heap_alloc_new w _)); have c10 : w'.cell? ⟨w.heap.size, 1, none⟩ = some (.iface 88 (.agg #[.pointer (some ⟨f, o, none⟩)])) := (by rw [hw']; exact cell_of_row _ _ _ _ _ _ (Go.heap_alloc_new w _)); clear hw' HAK)
    have HW9 : Hid (Below w.heap.size w w'.drew) := hide (by rw [HM.out]; exact (HB0.out.trans ((drewN_bel _ _).mono HB0.out.size)).drew)
    go_region_held3 (fun w' => w'.cell? ⟨w.heap.size, 1, none⟩ = some (.iface 88 (.agg #[.pointer (some ⟨f, o, none⟩)]))) (first | assumption | go_keep)
      (first | (go_at_call 73; refine (HTK.out _ HW9.out).mono ?_; rintro e w8 ⟨rfl, h8⟩; have H8 := hide h8; have c11 := h8.cell (by have := HFB.out; omega) (show w'.drew.cell? ⟨w.heap.size, 1, none⟩ = _ from c10); clear h8))
    go_wp2_with fail
    refine bodyPost_ret (results_tmp2 rfl _ _ _) rfl ?_
    exact ⟨rfl, H8.out.mono HW9.out⟩
end Go.Proofs.Ytdjdcpldofmdjaa
