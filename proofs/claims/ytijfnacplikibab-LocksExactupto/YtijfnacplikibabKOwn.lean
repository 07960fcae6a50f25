import Derived.Test.YtijfnacplikibabKPlace
import Derived.Test.YtijfnacplikibabKApp
namespace Go.Proofs.Ytijfnacplikibab
open Go.RowKit
set_option linter.unusedVariables false
set_option linter.unusedSimpArgs false
set_option maxRecDepth 20000

/-- a list of numbers, one's own -/
def IRow (w : World) (v : Value) (l : List Int) : Prop := w.ownsRow 0 3 1 v l.length (l.map iV)
theorem IRow.kept {w w' : World} {v : Value} {l : List Int} (h : IRow w v l) (hk : ∀ g, v.ownBlock = some g → w'.heap[g]? = w.heap[g]?) : IRow w' v l := rowKept h hk
theorem IRow.lt {w : World} {v : Value} {l : List Int} (h : IRow w v l) {g : Nat} (hg : v.ownBlock = some g) : g < w.heap.size := (World.ownsRow.lt h g hg).2
theorem IRow.nil (w : World) : IRow w (.slice none 0 0) [] := ⟨rfl, .inl ⟨rfl, rfl⟩⟩
theorem Try.infoI : (Try.prog.info? 3).map (fun i => (i.zero, i.size, i.bytes)) = some (some (.int .i64 0), 1, 8) := by kernel_rfl
theorem infoIs : ∃ i, Try.prog.info? 3 = some i ∧ i.zero = some (.int .i64 0) ∧ i.size = 1 ∧ i.bytes = 8 := by
  have h := Try.infoI
  cases hi : Try.prog.info? 3 with
  | none => rw [hi] at h; simp at h
  | some i => rw [hi] at h; simp at h; exact ⟨i, rfl, h.1, h.2.1, h.2.2⟩
set_option maxHeartbeats 1000000 in
theorem owners_any (w : World) (v : Value) (l : List (Int × Int)) (hl : CRow w v l) (hb : l.length ≤ 8000000000000) :
    Calls Try.prog 51 #[v] w fun e w' => ∃ v', e = .returned v' ∧ IRow w' v' (l.map Prod.fst) ∧ Below w.heap.size w w' ∧ ∀ g, v'.ownBlock = some g → w.heap.size ≤ g := by
  obtain ⟨a, cap, rfl, h1, h2⟩ := rowForm hl
  unfold maxLen at h2
  have HC : Hid (∀ (j : Nat) (x : World), Below w.heap.size w x → j < l.length → ∃ g, a = some ⟨g, 0, none⟩ ∧ (x.cell? ⟨g, j * 2, none⟩ = some (.int .i64 (l.getD j (0, 0)).1)) ∧ x.cell? ⟨g, j * 2 + 1, none⟩ = some (.int .i64 (l.getD j (0, 0)).2)) := hide fun j x hx hj => by
    obtain ⟨g', cap', e, hlt, c1, c2⟩ := CRow.cell hl (c := l.getD j (0, 0)) (j := j) (by simp [List.getD, hj])
    simp only [Value.slice.injEq] at e
    exact ⟨g', e.1, (below_cell hx hlt _).trans c1, (below_cell hx hlt _).trans c2⟩
  have HB0 : Hid (Below w.heap.size w w) := hide (Below.refl _ w)
  have HT : Hid (∀ j, j < l.length → (l.take (j + 1)).map Prod.fst = (l.take j).map Prod.fst ++ [(l.getD j (0, 0)).1]) := hide fun j hj => by
    rw [List.take_add_one, List.map_append]
    simp [List.getD, hj]
  have HE : Hid ((l.take l.length).map Prod.fst = l.map Prod.fst) := hide (by rw [List.take_length])
  have HLn : Hid (∀ j, j ≤ l.length → ((l.take j).map Prod.fst).length = j) := hide fun j hj => by simp; omega
  obtain ⟨i0, hi, hz0, hz1, hz2⟩ := infoIs
  have HI0 : Hid (IRow w (.slice none 0 0) ((l.take 0).map Prod.fst)) := hide (IRow.nil w)
  clear hl
  generalize hk : l.length = n at *
  clear hk
  go_enter Try.func51, Try.ntmps51
  go_wp2_with fail
  go_loopw [3, 8] (fun lv x wr => ∃ j : Nat, j ≤ n ∧ x = .int .i64 (j : Int) ∧ IRow wr lv ((l.take j).map Prod.fst) ∧ Below w.heap.size w wr ∧ ∀ b, lv.ownBlock = some b → w.heap.size ≤ b) (fun _ x _ => n - (intOf x).toNat)
  case atStart => exact ⟨0, Nat.zero_le _, rfl, HI0.out, HB0.out, fun b e => by simp [Value.ownBlock] at e⟩
  case round =>
    obtain ⟨j, hj, rfl, hown, hbe, hloc⟩ := hrel
    have HLC := hide hloc
    have HBE := hide hbe
    by_cases hn : j < n
    · obtain ⟨gg, rfl, c1, c2⟩ := HC.out j wr hbe hn
      have hT := HT.out j hn
      have hL0 := HLn.out j (by omega)
      unfold IRow at hown
      rw [hL0] at hown
      obtain ⟨al, cl, el, hl1, hl2⟩ := rowForm hown
      subst el
      have HT' := hide hT
      have HL1 := HLn.out (j + 1) (by omega)
      have HLL := hide HL1
      generalize hys : (l.take (j + 1)).map Prod.fst = ys at *
      have HY := hide hys
      clear hys
      generalize (l.take j).map Prod.fst = xs at *
      generalize l.getD j (0, 0) = c at *
      obtain ⟨x, y⟩ := c
      dsimp only at c1 c2 HT'
      have o3 := (hown.alloc (.cells #[.int .i64 x, .int .i64 y] 75)).alloc (.cells #[.int .i64 x] 3)
      have HS : Hid (Below w.heap.size w ((wr.alloc (.cells #[.int .i64 x, .int .i64 y] 75)).alloc (.cells #[.int .i64 x] 3))) := hide ((HBE.out.alloc HBE.out.size _).alloc (by have := HBE.out.size; simp; omega) _)
      clear hbe hloc hT HL1 hL0 hown
      go_wp2_with (at_builtin; refine wpList_appendC _ rfl (.tmp 12) (.tmp 15) 50 rfl 3 i0 (.int .i64 0) 1 8 Try.underlying50 hi hz0 hz1 hz2 rfl (by decide) _ _ _ rfl o3 ⟨wr.heap.size + 1, 0, none⟩ 1 1 [.int .i64 x] rfl rfl (by decide) (cells_new _ _ _ _ (by simp)) (by simp [Value.oneCell']) (by unfold maxLen; omega) (by omega) ?_)
      intro v' w4 ho4 hup4
      have hbu := below_upon HS.out (Nat.le_refl _) hup4 HLC.out
      have HN : Hid (IRow w4 v' ys ∧ Below w.heap.size w w4 ∧ ∀ b, v'.ownBlock = some b → w.heap.size ≤ b) := hide ⟨by
        unfold IRow
        rw [HLL.out, HT'.out, List.map_append]
        exact ho4, hbu⟩
      clear ho4 hup4 o3 hbu HS HLC HBE HLL HT'
      go_wp2_with fail
      go_roundw
      case rel => exact ⟨j + 1, by omega, by go_num, by rw [HY.out]; exact HN.out.1, HN.out.2.1, HN.out.2.2⟩
      case measure => simp [intOf]; omega
    · have ej : j = n := by omega
      subst ej
      have HN := hide hown
      rw [HE.out] at HN
      obtain ⟨al, cl, el, hl1, hl2⟩ := rowForm hown
      subst el
      clear hown HC HT HLn HE hbe hloc
      go_wp2_with fail
      go_ret
      exact ⟨_, rfl, HN.out, HBE.out, HLC.out⟩
end Go.Proofs.Ytijfnacplikibab
