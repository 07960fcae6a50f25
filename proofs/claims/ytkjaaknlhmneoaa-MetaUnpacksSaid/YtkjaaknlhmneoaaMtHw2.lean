import Derived.Test.YtkjaaknlhmneoaaMtHw
namespace Go.Proofs.Ytkjaaknlhmneoaa
open Go.RowKit
open Num
set_option linter.unusedVariables false
set_option linter.unusedSimpArgs false
set_option maxRecDepth 20000

set_option maxHeartbeats 1000000 in
theorem handWords_any (w : World) (v : Value) (l : List Nat) (hv : USl w v l) (hl : l.length ≤ 17592186044416) :
    Calls Try.prog 20 #[v] w fun e w' => e = .returned (.slice (some ⟨w.heap.size, 0, none⟩) (l.length + 6) (l.length + 6)) ∧ WRow w' w.heap.size (l ++ wmarks) ∧ Below w.heap.size w w' := by
  have HV := hide hv
  obtain ⟨Z, hZ⟩ : ∃ Z, ((List.replicate (l.length + 6) 0).map u64v).toArray = Z := ⟨_, rfl⟩
  have hmk := made_wordsL (l.length + 6) (by omega)
  rw [hZ] at hmk
  simp only [Int.natCast_add, Int.cast_ofNat_Int] at hmk
  have HFIN : Hid (∀ wr, HWI w wr l 6 → WRow wr w.heap.size (l ++ wmarks)) := hide fun wr h => by have := h.row; simpa [wmarks] using this
  have HNX : Hid (∀ wr i, HWI w wr l i → i < 6 → HWI w (wr.setCell ⟨w.heap.size, l.length + i, none⟩ (.int .u64 ((1000 + i : Nat) : Int))) l (i + 1)) := hide fun wr i h hi => h.next hi
  have HCE : Hid (∀ wr i, HWI w wr l i → i < 6 → (∃ z, wr.cell? ⟨w.heap.size, l.length + i, none⟩ = some z) ∧ wr.frozen? ⟨w.heap.size, l.length + i, none⟩ = false) := hide fun wr i h hi => by
    have := h.row.cell (i := l.length + i) (by simp [wmarks]; omega)
    exact ⟨⟨_, this.1⟩, this.2⟩
  have hbz := (Below.refl w.heap.size w).alloc (Nat.le_refl _) (.cells Z 43)
  have hzsz : Z.size = l.length + 6 := by rw [← hZ]; simp
  obtain ⟨a, cap, rfl, h1, h2, h3, h4⟩ := hv
  unfold maxLen at h2
  by_cases h0 : l.length = 0
  · have START : Hid (HWI w (w.alloc (.cells Z 43)) l 0) := hide ⟨Nat.zero_le _, hbz, by
      have el : l = [] := List.eq_nil_of_length_eq_zero h0
      unfold WRow
      rw [Go.heap_alloc_new, ← hZ, h0, el]
      simp⟩
    clear h4 h3 HV hbz hmk
    have el : l = [] := List.eq_nil_of_length_eq_zero h0
    subst el
    simp only [List.length_nil, Nat.zero_add] at HNX HCE hZ h1 ⊢
    have hmk := made_wordsL 6 (by decide)
    rw [hZ] at hmk
    simp only [Int.cast_ofNat_Int] at hmk
    clear hZ h0 hl hzsz
    have hcp := run_copyW_zero
    go_enter Try.func20, Try.ntmps20
    go_wp2_with fail
    go_loopw [4] (fun x wr => ∃ i : Nat, x = .int .i64 (i : Int) ∧ HWI w wr [] i) (fun x _ => 6 - (intOf x).toNat)
    case atStart => exact ⟨0, rfl, START.out⟩
    case round =>
      clear START
      obtain ⟨i, rfl, hI⟩ := hrel
      have HI := hide hI
      have hin := hI.hi
      by_cases hlt : i < 6
      · obtain ⟨⟨z, hcz⟩, hfz⟩ := HCE.out _ _ hI hlt
        have HN := hide (HNX.out _ _ hI hlt)
        clear hI
        have hwu : IntKind.u64.wrap (1000 + (i : Int)) = ((1000 + i : Nat) : Int) := by rw [IntKind.wrap_u64]; omega
        generalize ((1000 + i : Nat) : Int) = mkv at *
        go_wp2_with fail
        go_roundw
        case rel => exact ⟨i + 1, by go_num, HN.out⟩
        case measure => simp [intOf]; omega
      · have e : i = 6 := by omega
        subst e
        clear hI
        go_wp2_with fail
        go_ret
        exact ⟨rfl, HFIN.out _ HI.out, HI.out.be⟩
  · obtain ⟨b, off, rfl, hlb, hc⟩ := h4 (by omega)
    have hnews := (HV.out.below hbz).news
    have hone := u64v_one l
    have hlen : (l.map u64v).length = l.length := by simp
    have HROW : Hid ((w.alloc (.cells Z 43)).setRow w.heap.size (Z.toList.take 0 ++ (l.map u64v ++ Z.toList.drop (0 + (l.map u64v).length))).toArray = w.alloc (.cells ((l ++ List.replicate 6 0).map u64v).toArray 43)) := hide (by
      rw [World.setRow_alloc_new]
      congr 2
      rw [← hZ, hlen]
      simp)
    have hb0 := (Below.refl w.heap.size w).alloc (Nat.le_refl _) (.cells ((l ++ List.replicate 6 0).map u64v).toArray 43)
    have START : Hid (HWI w (w.alloc (.cells ((l ++ List.replicate 6 0).map u64v).toArray 43)) l 0) := hide ⟨Nat.zero_le _, hb0, by
      unfold WRow
      rw [Go.heap_alloc_new]
      simp⟩
    have hmn : (l.map u64v).length = Nat.min l.length (l.length + 6) := by rw [hlen]; exact (Nat.min_eq_left (by omega)).symm
    clear hc h4 hZ h3 HV hb0 hbz
    generalize ((l ++ List.replicate 6 0).map u64v).toArray = ZZ at *
    generalize l.map u64v = X at *
    go_enter Try.func20, Try.ntmps20
    go_wp2_with (first
      | (refine wpList_copy_own rfl (.tmp 9) (.tmp 10) 35 35 rfl 43 Try.underlying35 size_u64h w.heap.size 0 (l.length + 6) (l.length + 6) _ l.length cap rfl rfl Z 43 (Go.heap_alloc_new w _) X hmn hnews (by omega) hone ?_; rw [HROW.out]))
    go_loopw [4] (fun x wr => ∃ i : Nat, x = .int .i64 (i : Int) ∧ HWI w wr l i) (fun x _ => 6 - (intOf x).toNat)
    case atStart => exact ⟨0, rfl, START.out⟩
    case round =>
      clear START
      obtain ⟨i, rfl, hI⟩ := hrel
      have HI := hide hI
      have hin := hI.hi
      by_cases hlt : i < 6
      · obtain ⟨⟨z, hcz⟩, hfz⟩ := HCE.out _ _ hI hlt
        have HN := hide (HNX.out _ _ hI hlt)
        clear hI
        have hwu : IntKind.u64.wrap (1000 + (i : Int)) = ((1000 + i : Nat) : Int) := by rw [IntKind.wrap_u64]; omega
        generalize ((1000 + i : Nat) : Int) = mkv at *
        go_wp2_with fail
        go_roundw
        case rel => exact ⟨i + 1, by go_num, HN.out⟩
        case measure => simp [intOf]; omega
      · have e : i = 6 := by omega
        subst e
        clear hI
        go_wp2_with fail
        go_ret
        exact ⟨rfl, HFIN.out _ HI.out, HI.out.be⟩
end Go.Proofs.Ytkjaaknlhmneoaa
