import Derived.Test.YtlpmpicmpklaoacGreatELawE
namespace Go.Proofs.YtlpmpicmpklaoacGreat
open Go.RowKit Go.Maps Go.Sort
set_option linter.unusedVariables false
set_option linter.unusedSimpArgs false
set_option maxRecDepth 20000

set_option maxHeartbeats 2000000 in
theorem play_any (w : World) (ld : Bool) (n s : Int) (iv : Value) (l : List Nat) (hn : i64ok n) (hs : i64ok s) (hv : BSl w iv l) (hl : l.length ≤ 140737488355000) (v : Value) (os : List OpV) (ho : OSl w v os) (hlen : os.length ≤ 1048576) (hdat : ∀ o ∈ os, o.dl.length ≤ 1048576) (lo hi : Int) :
    Calls Tryz.prog 6 #[.agg #[.bool ld, .int .i64 n, .int .i64 s, iv], v, .int .i64 lo, .int .i64 hi] w fun e w' => e = .returned (.bool true) ∧ Below w.heap.size w w' := by
  have b0 : Below w.heap.size w (w.alloc (.cells #[.bool ld, .int .i64 n, .int .i64 s, iv] 24)) := (Below.refl _ _).alloc (Nat.le_refl _) _
  have HM := hide (pmade_any (w.alloc (.cells #[.bool ld, .int .i64 n, .int .i64 s, iv] 24)) ld n s iv l hn hs (hv.below b0) hl)
  have HB0 := hide b0
  obtain ⟨a, cap, rfl, hcl, hcm, hall, hcell⟩ := ho
  unfold maxLen at hcm
  have HALL := hide hall
  have HCELL := hide hcell
  have HDT := hide hdat
  have HLN := hide hlen
  clear hn hs hl hv b0 hall hcell hdat
  go_enter Tryz.func6, Tryz.ntmps6
  go_wp2_with fail
  refine HM.out.mono ?_
  rintro e w1 ⟨pp, rfl, hb1, hpp, hD⟩
  generalize hW : w.alloc (.cells #[.bool ld, .int .i64 n, .int .i64 s, iv] 24) = wA at *
  clear hW HM
  have HBE : Hid (∀ w', Below wA.heap.size wA w' → Below w.heap.size w w') := hide fun w' h => HB0.out.trans (h.mono HB0.out.size)
  rcases hD with hD | ⟨S, hP, hE⟩
  · have HB1 := hide (HBE.out _ hb1)
    clear hb1
    go_wp2
    go_ret
    exact ⟨rfl, HB1.out⟩
  have HE := hide hE
  have HP0 := hide hP
  obtain ⟨a0, ha0⟩ := hP.cell0
  clear hP hE hb1
  go_wp2_with fail
  go_loopw [11] (fun x wr => ∃ (i nx k : Nat), i ≤ os.length ∧ x = .int .i64 (i : Int) ∧ PAll wA wr pp (S.calls (os.take i)) nx k ∧ nx ≤ i ∧ k ≤ 2 * i) (fun x _ => os.length - (intOf x).toNat)
  case atStart => exact ⟨0, 0, 0, Nat.zero_le _, rfl, HP0.out, Nat.le_refl _, Nat.le_refl _⟩
  case round =>
    clear HP0
    obtain ⟨i, nx, k, hi', rfl, hP, hnx, hk⟩ := hrel
    have HP := hide hP
    clear hP ha0
    by_cases hlt : i < os.length
    · obtain ⟨b, off, rfl, hc⟩ := HCELL.out (by omega)
      obtain ⟨x0, x1, x2, x3⟩ := hc i hlt
      have be := HBE.out _ HP.out.be
      have k0 : wr.cell? ⟨b, off + i * 4, none⟩ = some (.int .i64 os[i].kind) := by rw [be.cell (World.block_lt_of_cell? w _ x0)]; exact x0
      have k1 : wr.cell? ⟨b, off + i * 4 + 1, none⟩ = some (.int .i64 os[i].block) := by rw [be.cell (World.block_lt_of_cell? w _ x1)]; exact x1
      have k2 : wr.cell? ⟨b, off + i * 4 + 2, none⟩ = some (.int .i64 os[i].count) := by rw [be.cell (World.block_lt_of_cell? w _ x2)]; exact x2
      have k3 : wr.cell? ⟨b, off + i * 4 + 3, none⟩ = some os[i].dv := by rw [be.cell (World.block_lt_of_cell? w _ x3)]; exact x3
      obtain ⟨hbs, hkd, hbl, hct⟩ := HALL.out os[i] (List.getElem_mem hlt)
      have hcb : ∀ k, ((S.calls (os.take i)).cache k).length + 2 ≤ 268435456 := fun k => by
        have := cache_calls S k (os.take i)
        have e : (S.cache k).length = 0 := by rw [HE.out k]; rfl
        simp only [List.length_take] at this
        omega
      have HC := hide (pstep_any HP.out os[i] hbl hct ⟨hbs.below HB0.out, HDT.out _ (List.getElem_mem hlt)⟩ hcb (by omega) (by omega))
      have HSN := hide (calls_snoc S os hlt)
      clear hc x0 x1 x2 x3 hbs hkd hbl hct hcb be
      unfold OpV.val at HC
      generalize os[i].dv = dv at *
      generalize os[i].kind = kd at *
      generalize os[i].block = bl at *
      generalize os[i].count = ct at *
      go_wp2_with (go_at_call 9; refine HC.out.mono ?_; rintro e w2 ⟨rfl, nx2, k2', hP2, hnx2, hk2⟩; have HP2 := hide hP2; clear hP2)
      go_roundw
      case rel => exact ⟨i + 1, nx2, k2', by omega, by go_num, by rw [HSN.out]; exact HP2.out, by omega, by omega⟩
      case measure => simp [intOf]; omega
    · have HBF := hide (HBE.out _ HP.out.be)
      go_wp2
      go_ret
      exact ⟨rfl, HBF.out⟩
end Go.Proofs.YtlpmpicmpklaoacGreat
