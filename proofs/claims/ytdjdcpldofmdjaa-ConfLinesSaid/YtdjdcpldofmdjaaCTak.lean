import Derived.Test.YtdjdcpldofmdjaaCPre
namespace Go.Proofs.Ytdjdcpldofmdjaa
open Go.RowKit
set_option linter.unusedVariables false
set_option linter.unusedSimpArgs false
set_option maxRecDepth 20000

/-- the world behind a take: new blocks, and the field -/
def Took (w w' : World) (f o : Nat) (x : Int) : Prop := ∃ W, Below w.heap.size w W ∧ w' = W.setCell ⟨f, o, none⟩ (.int .i64 x)
/-- what a take answers: who: the length and the number of what stands there -/
def HTk (w : World) (f o : Nat) (who : Option (Nat × Int)) (far : Nat) (e : Ending) (w' : World) : Prop := match who with
  | some (k, x) => e = .returned (.tuple #[.int .i64 (k : Nat), .bool true]) ∧ Took w w' f o x
  | none => e = .returned (.tuple #[.int .i64 (far : Nat), .bool false]) ∧ Below w.heap.size w w'
set_option maxHeartbeats 2000000 in
theorem htake_any {w : World} {v : Value} {ns : Nm} {f o : Nat} {x0 : Int} (t : ByteArray) (ht : t.size ≤ maxLen) (hs : ∀ i, i < ns.length → (ns.getD i default).1.size ≤ 1000) (hf : w.cell? ⟨f, o, none⟩ = some (.int .i64 x0)) (hz : ∀ W, Below w.heap.size w W → W.frozen? ⟨f, o, none⟩ = false) (hn : NmL w v ns) :
    Calls Try.prog 68 #[.agg #[.pointer (some ⟨f, o, none⟩), v], .string t] w (HTk w f o (chWho ns (tx t)) (chFar ns (tx t) 0)) := by
  have hb0 : ∀ o : Obj, Below w.heap.size w (w.alloc o) := fun o => (Below.refl _ _).alloc (Nat.le_refl _) _
  obtain ⟨g, off, cap, rfl, n1, n2, n3⟩ := hn
  unfold maxLen at n2
  have HT := hide ht
  have HB0 := hide (hb0 (.cells #[.pointer (some ⟨f, o, none⟩), .slice (some ⟨g, off, none⟩) ns.length cap] 86))
  have HCE : Hid (∀ i, i < ns.length → ∀ W, Below (w.alloc (.cells #[.pointer (some ⟨f, o, none⟩), .slice (some ⟨g, off, none⟩) ns.length cap] 86)).heap.size (w.alloc (.cells #[.pointer (some ⟨f, o, none⟩), .slice (some ⟨g, off, none⟩) ns.length cap] 86)) W → W.cell? ⟨g, off + i * 2, none⟩ = some (.string (ns.getD i default).1) ∧ W.cell? ⟨g, off + i * 2 + 1, none⟩ = some (.int .i64 (ns.getD i default).2)) := hide fun i hi W hW =>
    ⟨cell_bel hW (cell_bel HB0.out (n3 i hi).1), cell_bel hW (cell_bel HB0.out (n3 i hi).2)⟩
  have HAL : Hid ((w.alloc (.cells #[.pointer (some ⟨f, o, none⟩), .slice (some ⟨g, off, none⟩) ns.length cap] 86)).heap.size = w.heap.size + 1) := hide (World.size_alloc ..)
  have HCF : Hid (∀ W, Below (w.alloc (.cells #[.pointer (some ⟨f, o, none⟩), .slice (some ⟨g, off, none⟩) ns.length cap] 86)).heap.size (w.alloc (.cells #[.pointer (some ⟨f, o, none⟩), .slice (some ⟨g, off, none⟩) ns.length cap] 86)) W → W.cell? ⟨f, o, none⟩ = some (.int .i64 x0) ∧ W.frozen? ⟨f, o, none⟩ = false ∧ W.cell? ⟨w.heap.size, 0, none⟩ = some (.pointer (some ⟨f, o, none⟩))) := hide fun W hW =>
    ⟨cell_bel hW (cell_bel HB0.out hf), hz W (HB0.out.trans (hW.mono (by rw [HAL.out]; omega))), cell_bel hW (cell_of_row _ _ _ _ _ _ (Go.heap_alloc_new w _))⟩
  have HFB : Hid (f < w.heap.size) := hide (cell_lt hf)
  have HNO := hide (chWho_no ns (tx t))
  have HAT := hide fun i h1 h2 h3 => chWho_at ns i (tx t) h1 h2 h3
  have HFT := hide fun i h1 => chFar_take ns i (tx t) 0 h1
  have HFL : Hid (∀ i, chFar (ns.take i) (tx t) 0 ≤ t.size) := hide fun i => by rw [← tx_len]; exact chFar_le _ _ _ (Nat.zero_le _)
  have HFA : Hid (chFar (ns.take ns.length) (tx t) 0 = chFar ns (tx t) 0) := hide (by rw [List.take_length])
  have HS := hide hs
  clear n3 hf hb0 hz ht hs
  generalize hwho : chWho ns (tx t) = who at *
  go_enter Try.func68, Try.ntmps68
  go_wp2_with fail
  generalize w.alloc (.cells #[.pointer (some ⟨f, o, none⟩), .slice (some ⟨g, off, none⟩) ns.length cap] 86) = w1 at *
  generalize hlen : ns.length = n at *
  have HLEN := hide hlen
  clear hlen hwho
  go_loopw [6, 12] (fun z y wr => ∃ i : Nat, i ≤ n ∧ y = .int .i64 (i : Int) ∧ z = .int .i64 (chFar (ns.take i) (tx t) 0 : Nat) ∧ Below w1.heap.size w1 wr ∧ Hid (∀ j, j < i → cp (tx t) (tx (ns.getD j default).1) ≠ (ns.getD j default).1.size)) (fun _ y _ => n - (intOf y).toNat)
  case atStart => exact ⟨0, Nat.zero_le _, rfl, rfl, Below.refl _ _, hide fun j hj => by omega⟩
  case round =>
    obtain ⟨i, hi, rfl, rfl, hB, H⟩ := hrel
    have HB := hide hB
    clear hB
    have hfl := HFL.out i
    by_cases hlt : i < n
    · obtain ⟨c1, c2⟩ := HCE.out i hlt wr HB.out
      have HBA : Hid (Below w1.heap.size w1 (wr.alloc (.cells #[.string (ns.getD i default).1, .int .i64 (ns.getD i default).2] 81))) := hide (HB.out.trans (((Below.refl _ _).alloc (Nat.le_refl _) _).mono HB.out.size))
      obtain ⟨d1, d2, d5⟩ := HCF.out _ HBA.out
      have d3 : (wr.alloc (.cells #[.string (ns.getD i default).1, .int .i64 (ns.getD i default).2] 81)).cell? ⟨wr.heap.size, 1, none⟩ = some (.int .i64 (ns.getD i default).2) := cell_of_row _ _ _ _ _ _ (Go.heap_alloc_new wr _)
      have d4 : (wr.alloc (.cells #[.string (ns.getD i default).1, .int .i64 (ns.getD i default).2] 81)).cell? ⟨wr.heap.size, 0, none⟩ = some (.string (ns.getD i default).1) := cell_of_row _ _ _ _ _ _ (Go.heap_alloc_new wr _)
      have hii : 0 ≤ (i : Int) ∧ (i : Int) < (n : Int) := ⟨by omega, by omega⟩
      have hsz := HS.out i hlt
      have HA : Hid (cp (tx t) (tx (ns.getD i default).1) = (ns.getD i default).1.size → who = some ((ns.getD i default).1.size, (ns.getD i default).2)) := hide fun h => HAT.out i hlt H.out h
      have HS2 : Hid (cp (tx t) (tx (ns.getD i default).1) ≠ (ns.getD i default).1.size → ∀ j, j < i + 1 → cp (tx t) (tx (ns.getD j default).1) ≠ (ns.getD j default).1.size) := hide fun h j hj => by
        by_cases hj' : j < i
        · exact H.out j hj'
        · obtain rfl : j = i := by omega
          exact h
      have HF2 := hide (HFT.out i hlt)
      have HFN : Hid (f ≠ wr.heap.size) := hide (by have := HFB.out; have := HB.out.size; have := HAL.out; omega)
      generalize (ns.getD i default).1 = s at *
      generalize (ns.getD i default).2 = y at *
      generalize chFar (ns.take i) (tx t) 0 = far at *
      have HHP := hide fun W => hasPre_any t s W HT.out (by unfold maxLen; omega)
      have HAK := hide fun W => alike_any t s W HT.out (by unfold maxLen; omega)
      have d6 : ((wr.alloc (.cells #[.string s, .int .i64 y] 81)).setCell ⟨f, o, none⟩ (.int .i64 y)).cell? ⟨wr.heap.size, 0, none⟩ = some (.string s) := by
        rw [World.cell?_of_block (Go.heap_setCell_other _ _ _ _ (by show wr.heap.size ≠ f; exact fun e => HFN.out e.symm))]; exact d4
      clear H
      by_cases hxy : cp (tx t) (tx s) = s.size
      · have hxe : decide (cp (tx t) (tx s) = s.size) = true := by simpa using hxy
        rw [hxe] at HHP
        have HW := hide (HA.out hxy)
        clear hxy hxe
        go_wp2_with (go_at_call 69; refine (HHP.out _).mono ?_; rintro e w' ⟨rfl, hw'⟩; have hw2 := hw'.symm; clear hw'; subst hw2; clear HHP)
        refine bodyPost_ret (results_tmp2 rfl _ _ _) rfl ?_
        rw [HW.out]
        exact ⟨rfl, _, HB0.out.trans (HBA.out.mono (by rw [HAL.out]; omega)), rfl⟩
      · have hxe : decide (cp (tx t) (tx s) = s.size) = false := by simpa using hxy
        rw [hxe] at HHP
        have HX := hide hxy
        clear hxy hxe
        generalize cp (tx t) (tx s) = m at *
        go_wp2_with (first
          | (go_at_call 69; refine (HHP.out _).mono ?_; rintro e w' ⟨rfl, hw'⟩; have hw2 := hw'.symm; clear hw'; subst hw2; clear HHP)
          | (go_at_call 37; refine (HAK.out _).mono ?_; rintro e w' ⟨rfl, mm, hw'⟩; have HM := hide hw'; clear hw' HAK))
        go_roundw
        case rel => exact ⟨i + 1, by omega, by go_num, by rw [HF2.out]; congr 1; split <;> omega, by rw [HM.out]; exact HBA.out.trans ((drewN_bel _ _).mono HBA.out.size), hide (HS2.out HX.out)⟩
        case measure => simp [intOf]; omega
    · have hnl : ¬ (i : Int) < (n : Int) := by omega
      have hin : i = n := by omega
      have H2 : Hid (who = none) := hide (HNO.out fun j hj => H.out j (by omega))
      clear H
      have HIN := hide hin
      clear hin
      go_wp2_with fail
      refine bodyPost_ret (results_tmp2 rfl _ _ _) rfl ?_
      rw [H2.out]
      exact ⟨by rw [HIN.out, HFA.out]; rfl, HB0.out.trans (HB.out.mono (by rw [HAL.out]; omega))⟩
end Go.Proofs.Ytdjdcpldofmdjaa
