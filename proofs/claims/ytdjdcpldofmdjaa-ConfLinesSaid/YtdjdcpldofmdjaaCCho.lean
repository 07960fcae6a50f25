import Derived.Test.YtdjdcpldofmdjaaCStr
namespace Go.Proofs.Ytdjdcpldofmdjaa
open Go.RowKit
set_option linter.unusedVariables false
set_option linter.unusedSimpArgs false
set_option maxRecDepth 20000

theorem cell_lt {w : World} {a : Addr} {v : Value} (h : w.cell? a = some v) : a.block < w.heap.size := by
  unfold World.cell? at h
  cases hh : w.heap[a.block]? with
  | none => simp [hh] at h
  | some o => exact (Array.getElem?_eq_some_iff.1 hh).1
theorem cell_bel {w w' : World} {a : Addr} {v : Value} (hb : Below w.heap.size w w') (h : w.cell? a = some v) : w'.cell? a = some v := by
  rw [World.cell?_of_block (hb.block _ (cell_lt h))]; exact h
theorem drewN_bel (w : World) (m : Nat) : Below w.heap.size w (w.drewN m) := ⟨rfl, rfl, rfl, Nat.le_refl _, fun _ _ => rfl⟩
abbrev Nm := List (ByteArray × Int)
/-- a list of names in memory -/
def NmL (w : World) (v : Value) (ns : Nm) : Prop := ∃ g off cap, v = .slice (some ⟨g, off, none⟩) ns.length cap ∧ ns.length ≤ cap ∧ cap ≤ maxLen ∧ ∀ i, i < ns.length → w.cell? ⟨g, off + i * 2, none⟩ = some (.string (ns.getD i default).1) ∧ w.cell? ⟨g, off + i * 2 + 1, none⟩ = some (.int .i64 (ns.getD i default).2)
theorem NmL.below {w w' : World} {v : Value} {ns : Nm} (h : NmL w v ns) (hb : Below w.heap.size w w') : NmL w' v ns := by
  obtain ⟨g, off, cap, e, h1, h2, h3⟩ := h
  exact ⟨g, off, cap, e, h1, h2, fun i hi => ⟨cell_bel hb (h3 i hi).1, cell_bel hb (h3 i hi).2⟩⟩
/-- the name of a number -/
def nmOf : Nm → Int → ByteArray
  | [], _ => ⟨#[]⟩
  | (s, n) :: l, x => if x = n then s else nmOf l x
theorem nmOf_at : ∀ (ns : Nm) (i : Nat) (x : Int), i < ns.length → (∀ j, j < i → x ≠ (ns.getD j default).2) → x = (ns.getD i default).2 → nmOf ns x = (ns.getD i default).1
  | [], i, x, h, _, _ => by simp at h
  | p :: l, 0, x, _, _, h => by simp at h; simp [nmOf, h]
  | p :: l, i + 1, x, h, h1, h2 => by
    have e : x ≠ p.2 := by simpa using h1 0 (by omega)
    simp only [nmOf, if_neg e]
    simpa using nmOf_at l i x (by simpa using h) (fun j hj => by simpa using h1 (j + 1) (by omega)) (by simpa using h2)
theorem nmOf_no : ∀ (ns : Nm) (x : Int), (∀ j, j < ns.length → x ≠ (ns.getD j default).2) → nmOf ns x = ⟨#[]⟩
  | [], x, _ => rfl
  | p :: l, x, h => by
    have e : x ≠ p.2 := by simpa using h 0 (by simp)
    simp only [nmOf, if_neg e]
    exact nmOf_no l x fun j hj => by simpa using h (j + 1) (by simpa using hj)
set_option maxHeartbeats 1000000 in
theorem hprint_any {w : World} {v : Value} {ns : Nm} {f o : Nat} {x : Int} (hf : w.cell? ⟨f, o, none⟩ = some (.int .i64 x)) (hn : NmL w v ns) :
    Calls Try.prog 65 #[.agg #[.pointer (some ⟨f, o, none⟩), v]] w fun e w' => e = .returned (.string (nmOf ns x)) ∧ Below w.heap.size w w' := by
  have hb0 : ∀ o : Obj, Below w.heap.size w (w.alloc o) := fun o => (Below.refl _ _).alloc (Nat.le_refl _) _
  obtain ⟨g, off, cap, rfl, n1, n2, n3⟩ := hn
  unfold maxLen at n2
  have HB0 := hide (hb0 (.cells #[.pointer (some ⟨f, o, none⟩), .slice (some ⟨g, off, none⟩) ns.length cap] 86))
  have HCE : Hid (∀ i, i < ns.length → ∀ W, Below (w.alloc (.cells #[.pointer (some ⟨f, o, none⟩), .slice (some ⟨g, off, none⟩) ns.length cap] 86)).heap.size (w.alloc (.cells #[.pointer (some ⟨f, o, none⟩), .slice (some ⟨g, off, none⟩) ns.length cap] 86)) W → W.cell? ⟨g, off + i * 2, none⟩ = some (.string (ns.getD i default).1) ∧ W.cell? ⟨g, off + i * 2 + 1, none⟩ = some (.int .i64 (ns.getD i default).2)) := hide fun i hi W hW =>
    ⟨cell_bel hW (cell_bel HB0.out (n3 i hi).1), cell_bel hW (cell_bel HB0.out (n3 i hi).2)⟩
  have HCF : Hid (∀ W, Below (w.alloc (.cells #[.pointer (some ⟨f, o, none⟩), .slice (some ⟨g, off, none⟩) ns.length cap] 86)).heap.size (w.alloc (.cells #[.pointer (some ⟨f, o, none⟩), .slice (some ⟨g, off, none⟩) ns.length cap] 86)) W → W.cell? ⟨f, o, none⟩ = some (.int .i64 x) ∧ W.cell? ⟨w.heap.size, 0, none⟩ = some (.pointer (some ⟨f, o, none⟩))) := hide fun W hW =>
    ⟨cell_bel hW (cell_bel HB0.out hf), cell_bel hW (cell_of_row _ _ _ _ _ _ (Go.heap_alloc_new w _))⟩
  have HNO := hide (nmOf_no ns x)
  have HAT := hide fun i h1 h2 h3 => nmOf_at ns i x h1 h2 h3
  clear n3 hf hb0
  go_enter Try.func65, Try.ntmps65
  go_wp2_with fail
  have hal : (w.alloc (.cells #[.pointer (some ⟨f, o, none⟩), .slice (some ⟨g, off, none⟩) ns.length cap] 86)).heap.size = w.heap.size + 1 := World.size_alloc ..
  have HAL := hide hal
  clear hal
  generalize w.alloc (.cells #[.pointer (some ⟨f, o, none⟩), .slice (some ⟨g, off, none⟩) ns.length cap] 86) = w1 at *
  generalize hlen : ns.length = n at *
  have HLEN := hide hlen
  clear hlen
  go_loopw [8] (fun y wr => ∃ i : Nat, i ≤ n ∧ y = .int .i64 (i : Int) ∧ Below w1.heap.size w1 wr ∧ Hid (∀ j, j < i → x ≠ (ns.getD j default).2)) (fun y _ => n - (intOf y).toNat)
  case atStart => exact ⟨0, Nat.zero_le _, rfl, Below.refl _ _, hide fun j hj => by omega⟩
  case round =>
    obtain ⟨i, hi, rfl, hB, H⟩ := hrel
    have HB := hide hB
    clear hB
    by_cases hlt : i < n
    · obtain ⟨c1, c2⟩ := HCE.out i hlt wr HB.out
      have HBA : Hid (Below w1.heap.size w1 (wr.alloc (.cells #[.string (ns.getD i default).1, .int .i64 (ns.getD i default).2] 81))) := hide (HB.out.trans (((Below.refl _ _).alloc (Nat.le_refl _) _).mono HB.out.size))
      obtain ⟨d1, d2⟩ := HCF.out _ HBA.out
      have d3 : (wr.alloc (.cells #[.string (ns.getD i default).1, .int .i64 (ns.getD i default).2] 81)).cell? ⟨wr.heap.size, 1, none⟩ = some (.int .i64 (ns.getD i default).2) := cell_of_row _ _ _ _ _ _ (Go.heap_alloc_new wr _)
      have d4 : (wr.alloc (.cells #[.string (ns.getD i default).1, .int .i64 (ns.getD i default).2] 81)).cell? ⟨wr.heap.size, 0, none⟩ = some (.string (ns.getD i default).1) := cell_of_row _ _ _ _ _ _ (Go.heap_alloc_new wr _)
      have hii : 0 ≤ (i : Int) ∧ (i : Int) < (n : Int) := ⟨by omega, by omega⟩
      have HA : Hid (x = (ns.getD i default).2 → nmOf ns x = (ns.getD i default).1) := hide fun h => HAT.out i hlt H.out h
      have HS : Hid (x ≠ (ns.getD i default).2 → ∀ j, j < i + 1 → x ≠ (ns.getD j default).2) := hide fun h j hj => by
        by_cases hj' : j < i
        · exact H.out j hj'
        · obtain rfl : j = i := by omega
          exact h
      generalize (ns.getD i default).1 = s at *
      generalize (ns.getD i default).2 = y at *
      clear H
      by_cases hxy : x = y
      · have hxe : (x == y) = true := by simpa using hxy
        have HX := hide hxy
        clear hxy
        go_wp2_with fail
        go_quiet (fail)
        go_wp2_with fail
        go_ret
        exact ⟨by rw [HA.out HX.out]; rfl, HB0.out.trans (((HBA.out.trans (drewN_bel _ _ |>.mono HBA.out.size))).mono (by rw [HAL.out]; omega))⟩
      · have hxe : (x == y) = false := by simpa using hxy
        have HX := hide hxy
        clear hxy
        go_wp2_with fail
        go_quiet (fail)
        go_wp2_with fail
        go_roundw
        case rel => exact ⟨i + 1, by omega, by go_num, HBA.out.trans ((drewN_bel _ _).mono HBA.out.size), hide (HS.out HX.out)⟩
        case measure => simp [intOf]; omega
    · have hnl : ¬ (i : Int) < (n : Int) := by omega
      have H2 : Hid (nmOf ns x = ⟨#[]⟩) := hide (HNO.out fun j hj => H.out j (by omega))
      clear H
      go_wp2_with fail
      go_ret
      exact ⟨by rw [H2.out]; rfl, HB0.out.trans (HB.out.mono (by rw [HAL.out]; omega))⟩
set_option maxHeartbeats 1000000 in
theorem hstands_any {w : World} {v : Value} {ns : Nm} {f o : Nat} {x : Int} (hf : w.cell? ⟨f, o, none⟩ = some (.int .i64 x)) (hn : NmL w v ns) :
    Calls Try.prog 67 #[.agg #[.pointer (some ⟨f, o, none⟩), v]] w fun e w' => e = .returned (.bool (!(nmOf ns x).toList.isEmpty)) ∧ Below w.heap.size w w' := by
  have hb0 : Below w.heap.size w (w.alloc (.cells #[.pointer (some ⟨f, o, none⟩), v] 86)) := (Below.refl _ _).alloc (Nat.le_refl _) _
  have HP := hide (hprint_any (cell_bel hb0 hf) (hn.below hb0))
  have HB0 := hide hb0
  obtain ⟨g, off, cap, rfl, -⟩ := hn
  generalize nmOf ns x = s at *
  generalize ns.length = n at *
  clear hf hb0
  go_enter Try.func67, Try.ntmps67
  go_wp2_with (go_at_call 65; refine HP.out.mono ?_; clear HP; rintro e w1 ⟨rfl, hb1⟩; have HB1 := hide hb1; clear hb1)
  go_ret
  exact ⟨rfl, HB0.out.trans (HB1.out.mono (by simp))⟩
end Go.Proofs.Ytdjdcpldofmdjaa
