import Derived.Test.YtlpmpicmpklaoabGreatKLawC
namespace Go.Proofs.YtlpmpicmpklaoabGreat.K
open Go.Proofs.YtlpmpicmpklaoabGreat Go.RowKit Go.Maps Go.Sort
set_option linter.unusedVariables false
set_option linter.unusedSimpArgs false
set_option maxRecDepth 20000

/-- a list of turns, in memory -/
def TSl (w : World) (v : Value) (ts : List Bool) : Prop :=
  ∃ a cap, v = .slice a ts.length cap ∧ ts.length ≤ cap ∧ cap ≤ maxLen ∧ (0 < ts.length → ∃ b off, a = some ⟨b, off, none⟩ ∧ ∀ i (h : i < ts.length), w.cell? ⟨b, off + i, none⟩ = some (.bool ts[i]))
/-- two pairs are made, one behind the other -/
theorem Two.made {w0 w1 w2 w3 : World} {pp qq : Nat} {S T : St} (h1 : Go.Proofs.YtlpmpicmpklaoabGreat.PAll w0 w1 pp S 0 0) (hb0 : Below w1.heap.size w1 w2) (h2 : Go.Proofs.YtlpmpicmpklaoabGreat.PAll w2 w3 qq T 0 0) : Two w0 w3 pp qq S T 0 0 0 0 := by
  obtain ⟨L, RL, wh, bv, p⟩ := h1
  obtain ⟨M, RM, vh, cv, q⟩ := h2
  have pk := PSt.ofE p
  have qk := PSt.ofE q
  have s02 : w0.heap.size ≤ w2.heap.size := Nat.le_trans p.be.size hb0.size
  have be : Below w0.heap.size w0 w3 := p.be.trans ((hb0.mono p.be.size).trans (q.be.mono s02))
  refine ⟨L, RL, wh, bv, M, RM, vh, cv, ?_, ?_, ?_⟩
  · refine pk.keptAll (fun x hx => ?_) (Nat.le_trans hb0.size q.be.size) be
    have := pk.lt x hx
    rw [q.be.block x (Nat.lt_of_lt_of_le this hb0.size), hb0.block x this]
  · exact ⟨q.d, q.r, q.b, be, be.size, fun x hx => hx.elim, fun x hx => hx.elim, fun x hx => hx.elim, fun hx => hx.elim, fun x hb hx => hx.elim, fun x hx => Nat.le_trans s02 (q.uD x hx), fun x hx => Nat.le_trans s02 (q.uR x hx), Nat.le_trans s02 q.uP, fun x hx => Nat.le_trans s02 (q.uB x hx), q.ap, q.pD, q.pR, q.bD⟩
  · intro x hx hy
    have l1 := pk.lt x hx
    have l2 : w2.heap.size ≤ x := by
      rcases hy with hy | hy | rfl | hy
      · exact q.uD x hy
      · exact q.uR x hy
      · exact q.uP
      · exact q.uB x hy
    have := hb0.size
    omega
set_option maxHeartbeats 2000000 in
theorem pair_any (w : World) (ld ld' : Bool) (n s n' s' : Int) (iv iv' : Value) (l l' : List Nat) (hn : i64ok n) (hs : i64ok s) (hv : BSl w iv l) (hl : l.length ≤ 140737488355000) (hn' : i64ok n') (hs' : i64ok s') (hv' : BSl w iv' l') (hl' : l'.length ≤ 140737488355000)
    (v : Value) (os : List OpV) (ho : OSl w v os) (hlen : os.length ≤ 1048576) (hdat : ∀ o ∈ os, o.dl.length ≤ 1048576) (tv : Value) (ts : List Bool) (ht : TSl w tv ts) :
    Calls Tryz.prog 4 #[.agg #[.bool ld, .int .i64 n, .int .i64 s, iv], .agg #[.bool ld', .int .i64 n', .int .i64 s', iv'], v, tv] w fun e w' => e = .returned (.bool true) ∧ Below w.heap.size w w' := by
  have HM := hide (fun w h => pmade_any w ld n s iv l hn hs h hl)
  have HM' := hide (fun w h => pmade_any w ld' n' s' iv' l' hn' hs' h hl')
  have HV := hide hv
  have HV' := hide hv'
  obtain ⟨a, cap, rfl, hcl, hcm, hall, hcell⟩ := ho
  obtain ⟨ta, tcap, rfl, htl, htm, htc⟩ := ht
  unfold maxLen at hcm htm
  have HALL := hide hall
  have HCELL := hide hcell
  have HTC := hide htc
  have HDT := hide hdat
  have HLN := hide hlen
  clear hn hs hl hv hn' hs' hl' hv' hall hcell hdat htc
  go_enter Tryz.func4, Tryz.ntmps4
  go_wp2_with fail
  have b0 : Below w.heap.size w ((w.alloc (.cells #[.bool ld, .int .i64 n, .int .i64 s, iv] 24)).alloc (.cells #[.bool ld', .int .i64 n', .int .i64 s', iv'] 24)) := ((Below.refl _ _).alloc (Nat.le_refl _) _).alloc (by simp) _
  have z1 : (w.alloc (.cells #[.bool ld, .int .i64 n, .int .i64 s, iv] 24)).heap.size = w.heap.size + 1 := by simp
  have hbx := Go.heap_alloc_new (w.alloc (.cells #[.bool ld, .int .i64 n, .int .i64 s, iv] 24)) (.cells #[.bool ld', .int .i64 n', .int .i64 s', iv'] 24)
  rw [z1] at hbx
  refine (HM.out _ (HV.out.below b0)).mono ?_
  rintro e w1 ⟨pp, rfl, hb1, hpp, hD⟩
  generalize hW : (w.alloc (.cells #[.bool ld, .int .i64 n, .int .i64 s, iv] 24)).alloc (.cells #[.bool ld', .int .i64 n', .int .i64 s', iv'] 24) = wA at *
  clear hW HM
  have HB0 := hide b0
  have HB1 := hide hb1
  have HD := hide hD
  have hbx1 : w1.heap[w.heap.size + 1]? = some (.cells #[.bool ld', .int .i64 n', .int .i64 s', iv'] 24 (0, 0)) := (hb1.block _ (Array.getElem?_eq_some_iff.1 hbx).1).trans hbx
  have x0 : w1.cell? ⟨w.heap.size + 1, 0, none⟩ = some (.bool ld') := by rw [cell_of_row _ _ _ _ _ _ hbx1]; rfl
  have x1 : w1.cell? ⟨w.heap.size + 1, 1, none⟩ = some (.int .i64 n') := by rw [cell_of_row _ _ _ _ _ _ hbx1]; rfl
  have x2 : w1.cell? ⟨w.heap.size + 1, 2, none⟩ = some (.int .i64 s') := by rw [cell_of_row _ _ _ _ _ _ hbx1]; rfl
  have x3 : w1.cell? ⟨w.heap.size + 1, 3, none⟩ = some iv' := by rw [cell_of_row _ _ _ _ _ _ hbx1]; rfl
  clear b0 hb1 hD hbx hbx1 z1
  go_wp2_with fail
  have b1 : Below w.heap.size w w1 := HB0.out.trans (HB1.out.mono HB0.out.size)
  refine (HM'.out _ (HV'.out.below b1)).mono ?_
  rintro e w2 ⟨qq, rfl, hb2, hqq, hE⟩
  clear HM'
  have HBE : Hid (∀ w', Below wA.heap.size wA w' → Below w.heap.size w w') := hide fun w' h => HB0.out.trans (h.mono HB0.out.size)
  have HB2 : Hid (Below w.heap.size w w2) := hide (b1.trans (hb2.mono b1.size))
  have HBx := hide hb2
  have cp : ∃ a, w2.cell? ⟨pp, 0, none⟩ = some (.pointer a) ∧ (a = none ∨ ∃ S, Go.Proofs.YtlpmpicmpklaoabGreat.PAll wA w1 pp S 0 0 ∧ ∀ k, S.cache k = []) := by
    rcases HD.out with h | ⟨S, hP, hS⟩
    · exact ⟨none, by rw [HBx.out.cell (World.block_lt_of_cell? w1 _ h)]; exact h, .inl rfl⟩
    · obtain ⟨a, ha⟩ := hP.cell0
      exact ⟨some a, by rw [HBx.out.cell (World.block_lt_of_cell? w1 _ ha)]; exact ha, .inr ⟨S, hP, hS⟩⟩
  have cq : ∃ a, w2.cell? ⟨qq, 0, none⟩ = some (.pointer a) ∧ (a = none ∨ ∃ T, Go.Proofs.YtlpmpicmpklaoabGreat.PAll w1 w2 qq T 0 0 ∧ ∀ k, T.cache k = []) := by
    rcases hE with h | ⟨S, hP, hS⟩
    · exact ⟨none, h, .inl rfl⟩
    · obtain ⟨a, ha⟩ := hP.cell0
      exact ⟨some a, ha, .inr ⟨S, hP, hS⟩⟩
  clear hE hb2 b1 HD x0 x1 x2 x3
  obtain ⟨pa, cp, hp⟩ := cp
  obtain ⟨qa, cq, hq⟩ := cq
  have HQ := hide hq
  clear hq
  cases pa with
  | none =>
    clear hp HQ
    cases qa <;> (go_wp2; go_ret; exact ⟨rfl, HB2.out⟩)
  | some pa =>
    have HP := hide hp
    clear hp
    cases qa with
    | none =>
      clear HP HQ
      go_wp2
      go_ret
      exact ⟨rfl, HB2.out⟩
    | some qa =>
      obtain ⟨S, hP, hS⟩ := HP.out.resolve_left (by simp)
      obtain ⟨T, hQ, hT⟩ := HQ.out.resolve_left (by simp)
      have H0 := hide (Two.made hP (Below.refl _ _) hQ)
      have HS := hide hS
      have HT := hide hT
      clear hP hQ hS hT HP HQ
      go_wp2_with fail
      go_loopw [13] (fun x wr => ∃ (i nx k my j : Nat) (S' T' : St), i ≤ os.length ∧ x = .int .i64 (i : Int) ∧ Two wA wr pp qq S' T' nx k my j ∧ (∀ k, (S'.cache k).length ≤ i) ∧ (∀ k, (T'.cache k).length ≤ i) ∧ nx ≤ i ∧ k ≤ 2 * i ∧ my ≤ i ∧ j ≤ 2 * i) (fun x _ => os.length - (intOf x).toNat)
      case atStart => exact ⟨0, 0, 0, 0, 0, S, T, Nat.zero_le _, rfl, H0.out, fun k => by rw [HS.out k]; simp, fun k => by rw [HT.out k]; simp, by omega, by omega, by omega, by omega⟩
      case round =>
        clear H0 HS HT cp cq
        obtain ⟨i, nx, k, my, j, S', T', hi', rfl, hI, hcs, hct', hnx, hk, hmy, hj⟩ := hrel
        have HI := hide hI
        have HCS := hide hcs
        have HCT := hide hct'
        clear hI hcs hct'
        by_cases hlt : i < os.length
        · obtain ⟨b, off, rfl, hc⟩ := HCELL.out (by omega)
          obtain ⟨x0, x1, x2, x3⟩ := hc i hlt
          have be := HBE.out _ HI.out.be
          have k0 : wr.cell? ⟨b, off + i * 4, none⟩ = some (.int .i64 os[i].kind) := by rw [be.cell (World.block_lt_of_cell? w _ x0)]; exact x0
          have k1 : wr.cell? ⟨b, off + i * 4 + 1, none⟩ = some (.int .i64 os[i].block) := by rw [be.cell (World.block_lt_of_cell? w _ x1)]; exact x1
          have k2 : wr.cell? ⟨b, off + i * 4 + 2, none⟩ = some (.int .i64 os[i].count) := by rw [be.cell (World.block_lt_of_cell? w _ x2)]; exact x2
          have k3 : wr.cell? ⟨b, off + i * 4 + 3, none⟩ = some os[i].dv := by rw [be.cell (World.block_lt_of_cell? w _ x3)]; exact x3
          obtain ⟨hbs, hkd, hbl, hct⟩ := HALL.out os[i] (List.getElem_mem hlt)
          have hda : Dat wA os[i].dv os[i].dl := ⟨hbs.below HB0.out, HDT.out _ (List.getElem_mem hlt)⟩
          clear hc x0 x1 x2 x3 hbs hkd
          by_cases htt : i < ts.length
          · obtain ⟨tb, toff, rfl, htc⟩ := HTC.out (by omega)
            have t0 := htc i htt
            have t1 : wr.cell? ⟨tb, toff + i, none⟩ = some (.bool ts[i]) := by rw [be.cell (World.block_lt_of_cell? w _ t0)]; exact t0
            clear htc t0 be
            generalize ts[i] = tt at *
            cases tt
            · have HC := hide (two_step HI.out os[i] hbl hct hda (fun k => by have := HCS.out k; omega) (by omega) (by omega))
              have HG := hide fun k => cache_call S' os[i] k
              clear hbl hct hda
              unfold OpV.val at HC
              generalize os[i].dv = dv at *
              generalize os[i].kind = kd at *
              generalize os[i].block = bl at *
              generalize os[i].count = ct at *
              go_wp2_with (go_at_call 9; refine HC.out.mono ?_; rintro e w4 ⟨rfl, nx2, k2', hP2, hnx2, hk2⟩; have HP2 := hide hP2; clear hP2)
              go_roundw
              case rel => exact ⟨i + 1, nx2, k2', my, j, _, T', by omega, by go_num, HP2.out, fun k => by have := HG.out k; have := HCS.out k; omega, fun k => by have := HCT.out k; omega, by omega, by omega, by omega, by omega⟩
              case measure => simp [intOf]; omega
            · have HC := hide (two_step HI.out.swap os[i] hbl hct hda (fun k => by have := HCT.out k; omega) (by omega) (by omega))
              have HG := hide fun k => cache_call T' os[i] k
              clear hbl hct hda
              unfold OpV.val at HC
              generalize os[i].dv = dv at *
              generalize os[i].kind = kd at *
              generalize os[i].block = bl at *
              generalize os[i].count = ct at *
              go_wp2_with (go_at_call 9; refine HC.out.mono ?_; rintro e w4 ⟨rfl, nx2, k2', hP2, hnx2, hk2⟩; have HP2 := hide hP2; clear hP2)
              go_roundw
              case rel => exact ⟨i + 1, nx, k, nx2, k2', S', _, by omega, by go_num, HP2.out.swap, fun k => by have := HCS.out k; omega, fun k => by have := HG.out k; have := HCT.out k; omega, by omega, by omega, by omega, by omega⟩
              case measure => simp [intOf]; omega
          · clear be
            have HC := hide (two_step HI.out os[i] hbl hct hda (fun k => by have := HCS.out k; omega) (by omega) (by omega))
            have HG := hide fun k => cache_call S' os[i] k
            clear hbl hct hda
            unfold OpV.val at HC
            generalize os[i].dv = dv at *
            generalize os[i].kind = kd at *
            generalize os[i].block = bl at *
            generalize os[i].count = ct at *
            go_wp2_with (go_at_call 9; refine HC.out.mono ?_; rintro e w4 ⟨rfl, nx2, k2', hP2, hnx2, hk2⟩; have HP2 := hide hP2; clear hP2)
            go_roundw
            case rel => exact ⟨i + 1, nx2, k2', my, j, _, T', by omega, by go_num, HP2.out, fun k => by have := HG.out k; have := HCS.out k; omega, fun k => by have := HCT.out k; omega, by omega, by omega, by omega, by omega⟩
            case measure => simp [intOf]; omega
        · have HBF := hide (HBE.out _ HI.out.be)
          go_wp2
          go_ret
          exact ⟨rfl, HBF.out⟩
end Go.Proofs.YtlpmpicmpklaoabGreat.K
