import Derived.Test.YtdjdcpldofmdjaaCPh
namespace Go.Proofs.Ytdjdcpldofmdjaa
open Go.RowKit
set_option linter.unusedVariables false
set_option linter.unusedSimpArgs false
set_option maxRecDepth 20000

theorem ext_drop (t : ByteArray) (k : Nat) : tx (t.extract k t.size) = (tx t).drop k := by
  simp only [tx, ByteArray.data_extract, Array.toList_extract, List.extract_eq_take_drop]
  rw [List.take_of_length_le]
  rw [List.length_drop]
  have : t.data.toList.length = t.size := tx_len t
  omega
theorem ext_size (t : ByteArray) (k : Nat) : (t.extract k t.size).size = t.size - k := by simp
theorem meth_choice_take (x : Value) (w : World) : (method 251 86 x "replica/conf.take").run Try.prog w = .ok (68, x) w := by kernel_rfl
theorem meth_choice_print (x : Value) (w : World) : (method 251 86 x "replica/conf.print").run Try.prog w = .ok (65, x) w := by kernel_rfl
theorem meth_choice_stands (x : Value) (w : World) : (method 251 86 x "replica/conf.stands").run Try.prog w = .ok (67, x) w := by kernel_rfl
theorem meth_count_take (x : Value) (w : World) : (method 251 88 x "replica/conf.take").run Try.prog w = .ok (73, x) w := by kernel_rfl
theorem meth_count_print (x : Value) (w : World) : (method 251 88 x "replica/conf.print").run Try.prog w = .ok (71, x) w := by kernel_rfl
theorem meth_count_stands (x : Value) (w : World) : (method 251 88 x "replica/conf.stands").run Try.prog w = .ok (72, x) w := by kernel_rfl
/-- what a part's take answers, where its own value answers (who: length and number; far) -/
def PTk (w : World) (f o : Nat) (t lead : ByteArray) (who : Option (Nat × Int)) (far : Nat) (e : Ending) (w' : World) : Prop :=
  if cp (tx t) (tx lead) < lead.size then e = .returned (.tuple #[.int .i64 (cp (tx t) (tx lead) : Nat), .bool false]) ∧ Below w.heap.size w w'
  else match who with
    | some (k, x) => e = .returned (.tuple #[.int .i64 ((lead.size : Int) + (k : Int)), .bool true]) ∧ Took w w' f o x
    | none => e = .returned (.tuple #[.int .i64 ((lead.size : Int) + (far : Int)), .bool false]) ∧ Below w.heap.size w w'
theorem PTk.short {w : World} {f o : Nat} {t lead : ByteArray} {who : Option (Nat × Int)} {far : Nat} {e : Ending} {w' : World} (h : cp (tx t) (tx lead) < lead.size) (he : e = .returned (.tuple #[.int .i64 (cp (tx t) (tx lead) : Nat), .bool false])) (hb : Below w.heap.size w w') : PTk w f o t lead who far e w' := by
  unfold PTk; rw [if_pos h]; exact ⟨he, hb⟩
theorem Took.mono {w W w' : World} {f o : Nat} {x : Int} (h : Took W w' f o x) (hb : Below w.heap.size w W) : Took w w' f o x := by
  obtain ⟨W1, h1, h2⟩ := h
  exact ⟨W1, hb.trans (h1.mono hb.size), h2⟩
theorem chWho_le : ∀ (ns : Nm) (t : List UInt8) {k : Nat} {x : Int}, chWho ns t = some (k, x) → k ≤ t.length
  | [], t, k, x, h => by simp [chWho] at h
  | q :: l, t, k, x, h => by
    unfold chWho at h
    split at h
    · rename_i e
      simp only [Option.some.injEq, Prod.mk.injEq] at h
      have := cp_le_l t (tx q.1)
      omega
    · exact chWho_le l t h
theorem Took.cell {w w' : World} {f o b j : Nat} {x : Int} {v : Value} (h : Took w w' f o x) (hb : f ≠ b) (hc : w.cell? ⟨b, j, none⟩ = some v) : w'.cell? ⟨b, j, none⟩ = some v := by
  obtain ⟨W, h1, rfl⟩ := h
  rw [World.cell?_of_block (Go.heap_setCell_other _ _ _ _ (by show b ≠ f; exact fun e => hb e.symm))]
  exact cell_bel h1 hc
set_option maxHeartbeats 2000000 in
theorem ptakeH_any {w : World} {v : Value} {ns : Nm} {f o : Nat} {x0 : Int} (lead t : ByteArray) (ht : t.size ≤ maxLen) (hl : lead.size ≤ 1000) (hs : ∀ i, i < ns.length → (ns.getD i default).1.size ≤ 1000) (hf : w.cell? ⟨f, o, none⟩ = some (.int .i64 x0)) (hz : ∀ W, Below w.heap.size w W → W.frozen? ⟨f, o, none⟩ = false) (hn : NmL w v ns) :
    Calls Try.prog 19 #[.agg #[.string lead, .iface 86 (.agg #[.pointer (some ⟨f, o, none⟩), v])], .string t] w (PTk w f o t lead (chWho ns ((tx t).drop lead.size)) (chFar ns ((tx t).drop lead.size) 0)) := by
  have HT := hide ht
  have HAK := hide fun W => alike_any t lead W ht (by unfold maxLen; omega)
  unfold maxLen at ht
  have HB0 : Hid (Below w.heap.size w (w.alloc (.cells #[.string lead, .iface 86 (.agg #[.pointer (some ⟨f, o, none⟩), v])] 46))) := hide ((Below.refl _ _).alloc (Nat.le_refl _) _)
  have HTK : Hid (∀ W, Below w.heap.size w W → Calls Try.prog 68 #[.agg #[.pointer (some ⟨f, o, none⟩), v], .string (t.extract lead.size t.size)] W (HTk W f o (chWho ns ((tx t).drop lead.size)) (chFar ns ((tx t).drop lead.size) 0))) := hide fun W hW => by
    have := htake_any (w := W) (t.extract lead.size t.size) (by rw [ext_size]; have := HT.out; omega) hs (cell_bel hW hf) (fun W' h' => hz W' (hW.trans (h'.mono hW.size))) (hn.below hW)
    rw [ext_drop] at this
    exact this
  have hsh : ∃ a n c, v = .slice a n c := by obtain ⟨g, off, cap, e, _⟩ := hn; exact ⟨_, _, _, e⟩
  obtain ⟨sa, sn, sc, rfl⟩ := hsh
  have hcl := cp_le_r (tx t) (tx lead)
  have hcl2 := cp_le_l (tx t) (tx lead)
  rw [tx_len] at hcl hcl2
  have HFB0 : Hid (f < w.heap.size) := hide (cell_lt hf)
  clear hf hz hn hs
  by_cases hlt : cp (tx t) (tx lead) < lead.size
  · have HSH : Hid (∀ e w', e = .returned (.tuple #[.int .i64 (cp (tx t) (tx lead) : Nat), .bool false]) → Below w.heap.size w w' → PTk w f o t lead (chWho ns ((tx t).drop lead.size)) (chFar ns ((tx t).drop lead.size) 0) e w') := hide fun e w' => PTk.short hlt
    generalize PTk w f o t lead (chWho ns ((tx t).drop lead.size)) (chFar ns ((tx t).drop lead.size) 0) = POST at *
    generalize cp (tx t) (tx lead) = m at *
    have hlti : (m : Int) < (lead.size : Int) := by omega
    go_enter Try.func19, Try.ntmps19
    go_wp2_with (go_at_call 37; refine (HAK.out _).mono ?_; rintro e w' ⟨rfl, mm, hw'⟩; have HM := hide hw'; have c9 : w'.cell? ⟨w.heap.size, 0, none⟩ = some (.string lead) := (by rw [hw']; exact cell_of_row _ _ _ _ _ _ (Go.heap_alloc_new w _)); clear hw' HAK)
    exact HSH.out _ _ rfl (by rw [HM.out]; exact HB0.out.trans ((drewN_bel _ _).mono HB0.out.size))
  · have hm : cp (tx t) (tx lead) = lead.size := by omega
    have HPO : Hid (PTk w f o t lead (chWho ns ((tx t).drop lead.size)) (chFar ns ((tx t).drop lead.size) 0) = fun e w' => match chWho ns ((tx t).drop lead.size) with
      | some (k, x) => e = .returned (.tuple #[.int .i64 ((lead.size : Int) + (k : Int)), .bool true]) ∧ Took w w' f o x
      | none => e = .returned (.tuple #[.int .i64 ((lead.size : Int) + (chFar ns ((tx t).drop lead.size) 0 : Int)), .bool false]) ∧ Below w.heap.size w w') := hide (by funext e w'; unfold PTk; rw [if_neg hlt])
    rw [HPO.out]
    rw [hm] at HAK
    have hfar : lead.size + chFar ns ((tx t).drop lead.size) 0 ≤ t.size := by
      have := chFar_le ns ((tx t).drop lead.size) 0 (Nat.zero_le _)
      rw [List.length_drop, tx_len] at this
      omega
    have hwho : ∀ k x, chWho ns ((tx t).drop lead.size) = some (k, x) → lead.size + k ≤ t.size := fun k x h => by
      have := chWho_le ns ((tx t).drop lead.size) h
      rw [List.length_drop, tx_len] at this
      omega
    have HFB : Hid (f < w.heap.size) := HFB0
    generalize chFar ns ((tx t).drop lead.size) 0 = far at *
    clear HPO hlt
    cases hw : chWho ns ((tx t).drop lead.size) with
    | none =>
      rw [hw] at HTK
      clear hwho
      have hti : (lead.size : Int) ≤ (t.size : Int) := by omega
      clear hm hcl hcl2 hw
      have hmt := meth_choice_take
      go_enter Try.func19, Try.ntmps19
      go_wp2_with (go_at_call 37; refine (HAK.out _).mono ?_; rintro e w' ⟨rfl, mm, hw'⟩; have HM := hide hw'; have c9 : w'.cell? ⟨w.heap.size, 0, none⟩ = some (.string lead) := (by rw [hw']; exact cell_of_row _ _ _ _ _ _ (Go.heap_alloc_new w _)); have c10 : w'.cell? ⟨w.heap.size, 1, none⟩ = some (.iface 86 (.agg #[.pointer (some ⟨f, o, none⟩), .slice sa sn sc])) := (by rw [hw']; exact cell_of_row _ _ _ _ _ _ (Go.heap_alloc_new w _)); clear hw' HAK)
      have HW9 : Hid (Below w.heap.size w w'.drew) := hide (by rw [HM.out]; exact (HB0.out.trans ((drewN_bel _ _).mono HB0.out.size)).drew)
      go_region_held3 (fun w' => w'.cell? ⟨w.heap.size, 1, none⟩ = some (.iface 86 (.agg #[.pointer (some ⟨f, o, none⟩), .slice sa sn sc]))) (first | assumption | go_keep)
        (first | (go_at_call 68; refine (HTK.out _ HW9.out).mono ?_; rintro e w8 ⟨rfl, h8⟩; have H8 := hide h8; have c11 := cell_bel h8 (show w'.drew.cell? ⟨w.heap.size, 1, none⟩ = _ from c10); clear h8))
      go_wp2_with fail
      refine bodyPost_ret (results_tmp2 rfl _ _ _) rfl ?_
      exact ⟨rfl, HW9.out.trans (H8.out.mono HW9.out.size)⟩
    | some kx =>
      obtain ⟨k, x⟩ := kx
      rw [hw] at HTK
      have hkx := hwho k x hw
      clear hwho
      have hti : (lead.size : Int) ≤ (t.size : Int) := by omega
      clear hm hcl hcl2 hw
      have hmt := meth_choice_take
      go_enter Try.func19, Try.ntmps19
      go_wp2_with (go_at_call 37; refine (HAK.out _).mono ?_; rintro e w' ⟨rfl, mm, hw'⟩; have HM := hide hw'; have c9 : w'.cell? ⟨w.heap.size, 0, none⟩ = some (.string lead) := (by rw [hw']; exact cell_of_row _ _ _ _ _ _ (Go.heap_alloc_new w _)); have c10 : w'.cell? ⟨w.heap.size, 1, none⟩ = some (.iface 86 (.agg #[.pointer (some ⟨f, o, none⟩), .slice sa sn sc])) := (by rw [hw']; exact cell_of_row _ _ _ _ _ _ (Go.heap_alloc_new w _)); clear hw' HAK)
      have HW9 : Hid (Below w.heap.size w w'.drew) := hide (by rw [HM.out]; exact (HB0.out.trans ((drewN_bel _ _).mono HB0.out.size)).drew)
      go_region_held3 (fun w' => w'.cell? ⟨w.heap.size, 1, none⟩ = some (.iface 86 (.agg #[.pointer (some ⟨f, o, none⟩), .slice sa sn sc]))) (first | assumption | go_keep)
        (first | (go_at_call 68; refine (HTK.out _ HW9.out).mono ?_; rintro e w8 ⟨rfl, h8⟩; have H8 := hide h8; have c11 := h8.cell (by have := HFB.out; omega) (show w'.drew.cell? ⟨w.heap.size, 1, none⟩ = _ from c10); clear h8))
      go_wp2_with fail
      refine bodyPost_ret (results_tmp2 rfl _ _ _) rfl ?_
      exact ⟨rfl, H8.out.mono HW9.out⟩
end Go.Proofs.Ytdjdcpldofmdjaa
