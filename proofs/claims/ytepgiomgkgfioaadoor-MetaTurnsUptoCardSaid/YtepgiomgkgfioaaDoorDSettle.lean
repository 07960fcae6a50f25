import Derived.Test.YtepgiomgkgfioaaDoorDRead2
namespace Go.Proofs.YtepgiomgkgfioaaDoor.K
open Go.RowKit Go.Maps
set_option linter.unusedVariables false
set_option linter.unusedSimpArgs false
set_option maxRecDepth 20000

theorem Core.ext {w : World} {L : Lay} {A : Nat → Value} {D : DataW Value} {S S' : St} (h : Core w L A D S) (e1 : S'.nb = S.nb) (e2 : S'.sz = S.sz) (e3 : S'.off = S.off) (e4 : S'.fuse = S.fuse) (e5 : S'.rd = S.rd) (e6 : S'.wr = S.wr) (e7 : S'.th = S.th) (e8 : S'.fl = S.fl)
    (hm : ∀ k, k < S.nb → S'.med k = S.med k) (hc : ∀ k, k < S.nb → S'.cache k = S.cache k) : Core w L A D S' := by
  refine ⟨by rw [e1]; exact h.nb1, by rw [e1]; exact h.nb2, by rw [e2]; exact h.sz, by rw [e4]; exact h.fz, ?_, ?_, ?_, ?_, ?_, ?_, ?_, ?_, ?_, ?_, h.uP, h.uM, h.uC, h.uLt⟩
  · have : diskRow L S' = diskRow L S := by unfold diskRow; rw [e1, e2, e3, e4, e5, e6, e7, e8]
    rw [this]; exact h.hp
  · obtain ⟨ms, h1, h2, h3⟩ := h.hm
    refine ⟨ms, h1, by rw [e1]; exact h2, fun i hi => ?_⟩
    rw [e1] at hi
    obtain ⟨v, hv, hmed⟩ := h3 i hi
    exact ⟨v, hv, by rw [hm i hi]; exact hmed⟩
  · intro i l hi hl
    rw [e1] at hi
    rw [e2]; exact h.mlen i l hi (by rw [← hm i hi]; exact hl)
  · intro i l hi hl
    rw [e1] at hi
    rw [e2]; exact h.clen i l hi (by rw [← hc i hi]; exact hl)
  · rw [e1]; exact h.keys
  · intro k hk; rw [e1] at hk; rw [hc k hk]; exact h.hasK k hk
  · intro k hk; rw [e1] at hk; exact h.at_ k hk
  · intro k hk; rw [e1] at hk; rw [hc k hk]; exact h.row k hk
  · rw [e1]; exact h.apart
  · rw [e1]; exact h.offM

theorem aheadM : ∀ (v : Value) (w : World), (nilAhead 230 53 v "replica/disk.lay").run Tryd.prog w = .ok (some false) w := fun v w => by kernel_rfl

/-- one block's cached writes go down: the first n of them -/
def St.settle1 (S : St) (k n : Nat) : St := (if 0 < n then S.laid k (some ((S.cache k).getD (n - 1) [])) else S).dropped k

/-- from w to w' only the medium and the map have turned -/
structure Two (L : Lay) (w w' : World) : Prop where
  os : w'.os = w.os
  tape : w'.tape = w.tape
  output : w'.output = w.output
  size : w'.heap.size = w.heap.size
  keep : ∀ b, b ≠ L.mb → b ≠ L.cb → w'.heap[b]? = w.heap[b]?

theorem Core.ranges_drop {w w' : World} {L : Lay} {A : Nat → Value} {D : DataW Value} {S : St} {r cnt : Nat} {left : Lit → Bool} (hrg : w.ranges Tryd.prog 3 Rv L.cb r 8192 D left cnt) (hc : Core w L A D S) {k : Nat} (hk : k < S.nb)
    (ht : w.mapTurned w' L.cb) : Core w' L (updF A k nilS) (D.del (kL k)) (S.dropped k) ∧ Two L w w' := by
  have hg := ht.grown
  have hs : w'.heap.size = w.heap.size := by
    obtain ⟨es, c, es', c', hb, rfl⟩ := ht
    simp [ChangeMaps.setBlock]
  have KEEP : ∀ b, b ≠ L.cb → w'.heap[b]? = w.heap[b]? := fun b hb => by
    by_cases hlt : b < w.heap.size
    · exact hg.block b hlt (by simpa using hb)
    · rw [Array.getElem?_eq_none (by omega), Array.getElem?_eq_none (by omega)]
  have hcb : ∃ es c, w.heap[L.cb]? = some (.map es c) := by obtain ⟨es, c, h, _⟩ := hrg.owns; exact ⟨es, c, h⟩
  exact ⟨hc.drop hk hcb KEEP (by omega), ⟨hg.os, hg.tape, hg.output, hs, fun b _ hb => KEEP b hb⟩⟩

theorem settle_any {w : World} {L : Lay} {A : Nat → Value} {D : DataW Value} {S : St} {r cnt : Nat} {left : Lit → Bool} (hrg : w.ranges Tryd.prog 3 Rv L.cb r 8192 D left cnt) (hc : Core w L A D S) {k n : Nat} (hk : k < S.nb) (hn : n ≤ (S.cache k).length) (hrL : ¬ L.U r) :
    Calls Tryd.prog 21 #[.map (some L.cb), .iface 53 (medV L S), .int .i64 (k : Int), .int .i64 (n : Int)] w fun e w' => e = .returned (.tuple #[]) ∧ ∃ A' cnt', w'.ranges Tryd.prog 3 Rv L.cb r 8192 (D.del (kL k)) (fun z => left z && !z.sameKey (kL k)) cnt' ∧ cnt' ≤ cnt ∧ Core w' L A' (D.del (kL k)) (S.settle1 k n) ∧ Two L w w' := by
  have hm := layM
  have ha := aheadM
  by_cases h0 : 0 < n
  · have hr := look_run hrg.owns hc hk
    obtain ⟨gr, cap, g, e, hcap, hmx, hcell, hp, hu⟩ := (hc.row k hk).at_ (i := n - 1) (by omega)
    have hr' : (Instr.lookup 56 (.map (some L.cb)) (.int .i64 (k : Int)) false).run Tryd.prog w.drew = .ok (A k) w.drew := look_run (w := w.drew) hrg.owns (hc.kept (fun _ _ => rfl) (Nat.le_refl _)) hk
    rw [e] at hr hr'
    have HRG := hide hrg
    have HC := hide hc
    have HP := hide hp
    clear hrg hc hp
    generalize hl : (S.cache k).getD (n - 1) [] = l at *
    have HL := hide hl
    have hmem : l ∈ S.cache k := by
      rw [← hl]
      exact List.mem_of_getElem? (getD_get [] (show n - 1 < (S.cache k).length by omega))
    have hlen : n ≤ (S.cache k).length := hn
    clear hl
    generalize (S.cache k).length = N at *
    have hcell' : w.drew.cell? ⟨gr, n - 1, none⟩ = some (sl g l.length) := hcell
    unfold maxLen at hmx
    unfold sl at hcell hcell'
    have HCd : Hid (Core w.drew L A D S) := hide (HC.out.kept (fun _ _ => rfl) (Nat.le_refl _))
    have hkey := key_k (k := k) (by have := HC.out.nb2; omega)
    have HK1 : Hid (∀ b, b ≠ L.mb → (w.drew.setCell ⟨L.mb, k, none⟩ (.slice (some ⟨g, 0, none⟩) l.length l.length)).heap[b]? = w.heap[b]?) := hide fun b hb => Go.heap_setCell_other w.drew _ _ _ hb
    have HS1 : Hid ((w.drew.setCell ⟨L.mb, k, none⟩ (.slice (some ⟨g, 0, none⟩) l.length l.length)).heap.size = w.heap.size) := hide (by simp [World.setCell])
    have HC1 : Hid (Core (w.drew.setCell ⟨L.mb, k, none⟩ (.slice (some ⟨g, 0, none⟩) l.length l.length)) L A D (S.laid k (some l))) := hide (HCd.out.setMed hk (sl g l.length) (some l) ⟨g, rfl, HP.out, hu⟩ (fun m em => by
      cases em
      exact HC.out.clen k l hk hmem) (fun ms hms => Go.heap_setCell_same w.drew L.mb k _ 29 _ hms) (fun b hb => Go.heap_setCell_other w.drew _ _ _ hb) (by rw [HS1.out]; exact Nat.le_refl _))
    have HRG1 : Hid ((w.drew.setCell ⟨L.mb, k, none⟩ (.slice (some ⟨g, 0, none⟩) l.length l.length)).ranges Tryd.prog 3 Rv L.cb r 8192 D left cnt) := hide (HRG.out.kept (row := some L.mb) ⟨rfl, rfl, rfl, by rw [HS1.out]; exact Nat.le_refl _, fun b hb hne => HK1.out b (by simpa using hne)⟩ (fun e => by
      obtain ⟨es, c, h, _⟩ := HRG.out.owns
      obtain ⟨ms, h1, _⟩ := HC.out.hm
      simp only [Option.some.injEq] at e
      rw [e, h1] at h; simp at h) (fun e => hrL (by simp only [Option.some.injEq] at e; rw [e]; exact HC.out.uM)))
    go_enter Tryd.func21, Tryd.ntmps21
    have hwn : IntKind.i64.wrap ((n : Int) - 1) = (n : Int) - 1 := by simp [IntKind.wrap, IntKind.bits, IntKind.signed]; omega
    go_wp2_with fail
    go_region_with (go_at_call 76; refine (mlay_any HCd.out hk _ _ _).mono ?_; rintro e w' ⟨rfl, rfl⟩)
    all_goals
      go_wp2_with (at_delete; refine wpList_delete_ranges _ rfl (.tmp 23) (.tmp 24) 56 3 rfl 52 kInt Tryd.underlying56 Rv L.cb r 8192 D left cnt rfl HRG1.out _ (kL k) rfl hkey ?_; intro w2 cnt2 hrg2 hle ht)
      go_end0
      obtain ⟨h1, h2⟩ := Core.ranges_drop HRG1.out HC1.out hk ht
      refine ⟨rfl, updF A k nilS, cnt2, hrg2, hle, ?_, ?_⟩
      · have e1 : S.settle1 k n = (S.laid k (some l)).dropped k := by rw [St.settle1, if_pos h0, HL.out]
        rw [e1]
        exact h1
      · exact ⟨h2.os, h2.tape, h2.output, h2.size.trans HS1.out, fun b hb1 hb2 => (h2.keep b hb1 hb2).trans (HK1.out b hb1)⟩
  · have e0 : n = 0 := by omega
    subst e0
    have HRG := hide hrg
    have HC := hide hc
    have hkey := key_k (k := k) (by have := hc.nb2; omega)
    clear hrg hc
    go_enter Tryd.func21, Tryd.ntmps21
    go_wp2_with (at_delete; refine wpList_delete_ranges _ rfl (.tmp 23) (.tmp 24) 56 3 rfl 52 kInt Tryd.underlying56 Rv L.cb r 8192 D left cnt rfl HRG.out _ (kL k) rfl hkey ?_; intro w2 cnt2 hrg2 hle ht)
    go_end0
    obtain ⟨h1, h2⟩ := Core.ranges_drop HRG.out HC.out hk ht
    refine ⟨rfl, updF A k nilS, cnt2, hrg2, hle, ?_, h2⟩
    rw [St.settle1, if_neg (by omega)]
    exact h1
end Go.Proofs.YtepgiomgkgfioaaDoor.K
