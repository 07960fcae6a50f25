import Derived.Test.YtbkcenpohcjgnabDoorRefSum
import Derived.Test.YtbkcenpohcjgnabDoorSpoil2
import Derived.Test.YtbkcenpohcjgnabDoorApp2
import Derived.Test.YtbkcenpohcjgnabDoorEqual
import Derived.Test.YtbkcenpohcjgnabDoorCount
import Derived.Test.YtbkcenpohcjgnabDoorStreamInv
import Derived.Deep.RegionHeld3
import Derived.Deep.OwnRows
import Derived.Laws.OwnMore
import Derived.Deep.MidRow
namespace Go.Proofs.YtbkcenpohcjgnabDoor
open Go.RowKit
open Num
set_option linter.unusedVariables false
set_option linter.unusedSimpArgs false

/-- a step: its kind, its Hash, the slice, the bytes that it reads as -/
structure Stp where
  kind : Int
  of : Int
  pv : Value
  p : List Nat
def i64ok (z : Int) : Prop := -9223372036854775808 ≤ z ∧ z ≤ 9223372036854775807
def SSl (w : World) (v : Value) (ss : List Stp) : Prop :=
  ∃ a cap, v = .slice a ss.length cap ∧ ss.length ≤ cap ∧ cap ≤ maxLen ∧ (∀ s ∈ ss, i64ok s.kind ∧ i64ok s.of ∧ BSl w s.pv s.p) ∧
    (0 < ss.length → ∃ b off, a = some ⟨b, off, none⟩ ∧ ∀ i (hi : i < ss.length), w.cell? ⟨b, off + i * 3, none⟩ = some (.int .i64 ss[i].kind) ∧ w.cell? ⟨b, off + i * 3 + 1, none⟩ = some (.int .i64 ss[i].of) ∧ w.cell? ⟨b, off + i * 3 + 2, none⟩ = some ss[i].pv)

theorem Tryd.info22 : (Tryd.prog.info? 22).map (fun i => (i.zero, i.size, i.bytes)) = some (some (.slice none 0 0), 1, 24) := by kernel_rfl
theorem sum_take_le : ∀ (l : List Stp) (n : Nat), ((l.take n).map (fun s => s.p.length)).sum ≤ (l.map (fun s => s.p.length)).sum
  | [], n => by simp
  | s :: t, 0 => by simp
  | s :: t, n + 1 => by
    have := sum_take_le t n
    simp only [List.take_succ_cons, List.map_cons, List.sum_cons]
    omega
theorem given_ne (g0 g cap n base : Nat) (v : Value) (l m : List Nat) (w : World) (h : BSl w v l) (hn : n = (l ++ m).length) (ho : Own w base (.slice (some ⟨g, 0, none⟩) n cap) (l ++ m)) (hne : g ≠ g0) :
    Calls Tryd.prog 23 #[.slice (some ⟨g, 0, none⟩) n cap, v] w fun e w' => ∃ v', e = .returned v' ∧ BNe g0 w v' l ∧ w' = w := by
  subst hn
  have hs : (l ++ m).length ≤ cap ∧ cap ≤ maxLen := by
    rcases ho.1.2 with ⟨h0, _⟩ | ⟨g', cap', cur, h0, hb, hg, hn, hmm, _⟩
    · simp at h0
    · simp only [Value.slice.injEq, Option.some.injEq, Addr.mk.injEq, and_true, true_and] at h0
      obtain ⟨rfl, rfl⟩ := h0
      exact ⟨hn, hmm⟩
  have hle : l.length ≤ (l ++ m).length := by simp
  refine (given_any g cap _ v l w h hle hs.1 hs.2).mono ?_
  rintro e w' ⟨⟨rfl, rfl⟩ | rfl, rfl⟩
  · exact ⟨_, rfl, ⟨none, 0, rfl, Nat.le_refl _, by unfold maxLen; omega, by simp, by simp⟩, rfl⟩
  · have hp := ho.part l.length hle
    rw [List.take_left] at hp
    obtain ⟨a, c, e, h1, h2, _, h3, h4⟩ := hp
    simp only [Value.slice.injEq, true_and] at e
    obtain ⟨rfl, rfl⟩ := e
    refine ⟨_, rfl, ⟨_, cap, rfl, h1, h2, h3, fun hpos => ?_⟩, rfl⟩
    obtain ⟨b, off, e2, hc⟩ := h4 hpos
    simp only [Option.some.injEq, Addr.mk.injEq, and_true] at e2
    obtain ⟨rfl, rfl⟩ := e2
    exact ⟨g, 0, hne, rfl, hc⟩
theorem range_row {w : World} {g : Nat} {c : Array Value} {t : TypeId} {fr : Nat × Nat} (h : w.heap[g]? = some (.cells c t fr)) : w.rangeAt g 0 c.toList := by
  intro j v hv
  rw [Nat.zero_add, cell_of_row _ _ _ _ _ _ h, ← hv, Array.getElem?_toList]
theorem own_nil' (w : World) (base : Nat) : Own w base (.slice none 0 0) [] := ⟨⟨rfl, .inl ⟨rfl, rfl⟩⟩, by simp⟩
theorem made_nils : madeCells #[Value.slice none 0 0] 3 = #[.slice none 0 0, .slice none 0 0, .slice none 0 0] := by
  apply Array.toList_inj.1
  rw [toList_madeCells_one]; rfl

set_option maxRecDepth 100000 in
set_option maxHeartbeats 8000000 in
theorem stream_walk (v : Value) (ss : List Stp) (w : World) (hT : Tabs w) (hB : Tab w 1 H0) (hR : Tab w 2 Ks) (h : SSl w v ss) (hn : ss.length ≤ 1048576) (hs : (ss.map (fun s => s.p.length)).sum ≤ 1048576) :
    Calls Tryd.prog 7 #[v] w fun e w' => e = .returned (.bool true) ∧ Below w.heap.size w w' := by
  have HT := hide hT
  have HTB := hide hB
  have HTR := hide hR
  have HSS := hide h
  obtain ⟨a, cap, hv, hl, hm, hst, hcell⟩ := h
  subst hv
  unfold maxLen at hm
  have HST := hide hst
  have HCE := hide hcell
  have HSU := hide hs
  clear hT hB hR hst hcell hs
  have hmk := run_make_row' (P := Tryd.prog) 47 22 (.slice none 0 0) 24 Tryd.underlying47 Tryd.info22 rfl .i64 .i64 3 (by omega) (by omega)
  rw [made_nils, show ((3 : Nat) : Int) = 3 from rfl] at hmk
  obtain ⟨Hz, hHz⟩ : ∃ Hz, (hcells st0 (List.replicate 64 0) 0).toArray = Hz := ⟨_, rfl⟩
  have HN : Hid (∀ wx, Tab wx 0 H0 → Calls Tryd.prog 9 #[] wx fun e w' => e = .returned (.pointer (some ⟨wx.heap.size, 0, none⟩)) ∧ w' = wx.alloc (.cells Hz 57)) := fun wx ht => by
    rw [← hHz]; exact new_any wx ht
  have HRZ : Hid (∀ (wx : World) g, wx.heap[g]? = some (.cells Hz 57 (0, 0)) → HRow wx g [] 0 0) := fun wx g hg => by
    rw [← hHz] at hg
    exact ⟨List.replicate 64 0, by simp, fun b hb => by have := List.eq_of_mem_replicate hb; omega, rfl, hg⟩
  clear hHz
  go_enter Tryd.func7, Tryd.ntmps7
  go_wp2_with fail
  refine (HN.out _ HT.out.h).mono ?_
  rintro e w1 ⟨rfl, rfl⟩
  go_wp2_with fail
  refine (HN.out _ (HT.out.below (below_alloc _ _)).h).mono ?_
  rintro e w1 ⟨rfl, rfl⟩
  go_wp2_with fail
  refine (HN.out _ (HT.out.below (below_alloc2 _ _ _)).h).mono ?_
  rintro e w1 ⟨rfl, rfl⟩
  go_wp2
  have HIN : Hid (SInv w (((((w.alloc (.cells Hz 57)).alloc (.cells Hz 57)).alloc (.cells Hz 57)).alloc (.cells #[.pointer (some ⟨w.heap.size, 0, none⟩), .pointer (some ⟨w.heap.size + 1, 0, none⟩), .pointer (some ⟨w.heap.size + 1 + 1, 0, none⟩)] 24)).alloc (.cells #[.slice none 0 0, .slice none 0 0, .slice none 0 0] 22)) w.heap.size (fun _ => []) (fun _ => []) (fun _ => .slice none 0 0)) := by
    refine ⟨heap_more _ (heap_at (by simp)), heap_at (by simp), ?_, fun _ _ => own_nil' _ _, fun _ _ _ _ _ => apart_nil _, ((below_alloc3 w _ _ _).alloc (by simp; omega) _).alloc (by simp; omega) _, by simp⟩
    intro k hk
    rcases (show k = 0 ∨ k = 1 ∨ k = 2 by omega) with rfl | rfl | rfl
    · exact HRZ.out _ _ (heap_more _ (heap_more _ (heap_more _ (heap_more _ (Go.heap_alloc_new w _)))))
    · exact HRZ.out _ _ (heap_more _ (heap_more _ (heap3_snd w _ _ _)))
    · exact HRZ.out _ _ (heap_more _ (heap_more _ (heap3_new w _ _ _)))
  clear hmk HN HRZ
  generalize ((((w.alloc (.cells Hz 57)).alloc (.cells Hz 57)).alloc (.cells Hz 57)).alloc (.cells #[.pointer (some ⟨w.heap.size, 0, none⟩), .pointer (some ⟨w.heap.size + 1, 0, none⟩), .pointer (some ⟨w.heap.size + 1 + 1, 0, none⟩)] 24)).alloc (.cells #[.slice none 0 0, .slice none 0 0, .slice none 0 0] 22) = W at *
  obtain ⟨ga, hga⟩ : ∃ ga, w.heap.size + 1 + 1 + 1 + 1 = ga := ⟨_, rfl⟩
  obtain ⟨gh, hgh⟩ : ∃ gh, w.heap.size + 1 + 1 + 1 = gh := ⟨_, rfl⟩
  rw [hga, hgh]
  have HGA : Hid (w.heap.size + 4 = ga) := hga
  have HGH : Hid (w.heap.size + 3 = gh) := hgh
  clear hga hgh
  obtain ⟨B, hB⟩ : ∃ B, w.heap.size = B := ⟨_, rfl⟩
  rw [hB] at HGA HGH HIN
  have HBe := hide hB
  have HWX : Hid (∀ wx q c A, SInv w wx B q c A → Below w.heap.size w wx) := fun wx q c A h => by rw [HBe.out]; exact h.hb
  clear hB
  go_loopw [5] (fun iv wr => ∃ (i : Nat) (q : Nat → List Nat) (A : Nat → Value), i ≤ ss.length ∧ iv = .int .i64 i ∧ SInv w wr B q q A ∧ ∀ k, k < 3 → (q k).length ≤ ((ss.take i).map (fun s => s.p.length)).sum) (fun iv _ => ss.length - (intOf iv).toNat)
  case atStart => exact ⟨0, _, _, Nat.zero_le _, rfl, HIN.out, fun _ _ => Nat.zero_le _⟩
  case round =>
    clear HIN
    obtain ⟨i, q, A, hi, rfl, hinv, hql⟩ := hrel
    by_cases hlt : i < ss.length
    · obtain ⟨b, off, rfl, hce⟩ := HCE.out (by omega)
      obtain ⟨c0, c1, c2⟩ := hce i hlt
      obtain ⟨hkd, hof, hps⟩ := HST.out _ (List.getElem_mem hlt)
      have hwb : Below w.heap.size w wr := by rw [HBe.out]; exact hinv.hb
      have hblt : b < w.heap.size := World.block_lt_of_cell? w ⟨b, off + i * 3, none⟩ c0
      have d0 : wr.cell? ⟨b, off + i * 3, none⟩ = some (.int .i64 ss[i].kind) := by rw [hwb.cell (p := ⟨b, off + i * 3, none⟩) hblt]; exact c0
      have d1 : wr.cell? ⟨b, off + i * 3 + 1, none⟩ = some (.int .i64 ss[i].of) := by rw [hwb.cell (p := ⟨b, off + i * 3 + 1, none⟩) hblt]; exact c1
      have d2 : wr.cell? ⟨b, off + i * 3 + 2, none⟩ = some ss[i].pv := by rw [hwb.cell (p := ⟨b, off + i * 3 + 2, none⟩) hblt]; exact c2
      have hsum : ((ss.take (i + 1)).map (fun s => s.p.length)).sum = ((ss.take i).map (fun s => s.p.length)).sum + ss[i].p.length := by
        rw [List.take_succ_eq_append_getElem hlt, List.map_append, List.sum_append]; simp
      have hsle : ((ss.take (i + 1)).map (fun s => s.p.length)).sum ≤ 1048576 := Nat.le_trans (sum_take_le _ _) HSU.out
      have HPS := hide hps
      have HKD := hide hkd
      have HOF := hide hof
      generalize ss[i].kind = kd at *
      generalize ss[i].of = oo at *
      generalize ss[i].pv = pv at *
      generalize ss[i].p = p at *
      have HQL := hide hql
      have HSM := hide hsum
      have HSL := hide hsle
      have HINV := hide hinv
      have HWB := hide hwb
      obtain ⟨ap, cp, hpv, hpl, hcp, _, _, _⟩ := hps
      subst hpv
      unfold maxLen at hcp
      clear c0 c1 c2 hce hkd hof hql hsum hsle hinv hwb
      go_wp2_with fail
      have HW1 := hide (which_any kd oo (.slice ap p.length cp) (wr.alloc (.cells #[.int .i64 kd, .int .i64 oo, .slice ap p.length cp] 49)) HOF.out)
      refine HW1.out.mono ?_
      rintro e w2 ⟨⟨k, hk3, rfl⟩, hb2⟩
      have HB2 := hide ((below_alloc wr (.cells #[.int .i64 kd, .int .i64 oo, .slice ap p.length cp] 49)).trans (hb2.mono (by simp)))
      have HI2 := hide (HINV.out.below HB2.out)
      have HO2 := hide (heap_kept hb2 (Go.heap_alloc_new wr (.cells #[.int .i64 kd, .int .i64 oo, .slice ap p.length cp] 49)))
      obtain ⟨go', hgo⟩ : ∃ g, wr.heap.size = g := ⟨_, rfl⟩
      have hgoB : B + 5 ≤ go' := by rw [← hgo]; exact HINV.out.hz
      rw [hgo] at HO2 ⊢
      have hgo2 : go' < w2.heap.size := (Array.getElem?_eq_some_iff.1 HO2.out).1
      have HP2 := hide (HPS.out.below (HWX.out _ _ _ _ HI2.out))
      have o0 : w2.cell? ⟨go', 0, none⟩ = some (.int .i64 kd) := by rw [cell_of_row _ _ _ _ _ _ HO2.out]; rfl
      have o2 : w2.cell? ⟨go', 2, none⟩ = some (.slice ap p.length cp) := by rw [cell_of_row _ _ _ _ _ _ HO2.out]; rfl
      clear hb2 HW1 HB2 HINV d0 d1 d2 hgo HWB
      by_cases hkw : kd = 0
      · subst hkw
        go_wp2_with fail
        refine (roomy_any _ p w2 HP2.out (by have := HSL.out; have := HSM.out; omega)).mono ?_
        rintro e w3 ⟨vo, rfl, ho, hb3⟩
        obtain ⟨gr, cr, hvo, hgr, hgrl, hcl, hcm⟩ := ho.shape (by simp [marks_len])
        have hml : (p ++ marks 150).length = p.length + 150 := by simp [marks_len]
        rw [hvo] at ho
        rw [hml] at hvo hcl
        subst hvo
        unfold maxLen at hcm
        have HML := hide hml
        have HO3 := hide ho
        have HI3 := hide (HI2.out.below hb3)
        have o3 : w3.cell? ⟨go', 2, none⟩ = some (.slice ap p.length cp) := by rw [hb3.cell (p := ⟨go', 2, none⟩) hgo2]; exact o2
        have HP3 := hide (HP2.out.below hb3)
        have hgrk : gr ≠ B + k := by have := HI2.out.hz; omega
        have hgrB : B + 5 ≤ gr := by have := HI2.out.hz; omega
        have hgo3 : go' < w3.heap.size := Nat.lt_of_lt_of_le hgo2 hb3.size
        have hne4 : go' ≠ gr := by omega
        have HAB : Hid (∀ j, j < 3 → (A j).ownBlock ≠ some gr) := fun j hj e => by have := ((HI2.out.ho j hj).1.lt gr e).2; omega
        have p3 : w3.cell? ⟨gh, k, none⟩ = some (.pointer (some ⟨B + k, 0, none⟩)) := by rw [← HGH.out]; exact HI3.out.pcell hk3
        have hghk : gh ≠ B + k := by have := HGH.out; omega
        have hgok : go' ≠ B + k := by omega
        have HTK3 : Hid (Tabs w3) := HT.out.below (HWX.out _ _ _ _ HI3.out)
        have HCG : Hid (Calls Tryd.prog 23 #[.slice (some ⟨gr, 0, none⟩) (p.length + 150) cr, .slice ap p.length cp] w3.drew fun e w' => ∃ v', e = .returned v' ∧ BNe (B + k) w3.drew v' p ∧ w' = w3.drew) :=
          given_ne (B + k) gr cr (p.length + 150) w2.heap.size _ p (marks 150) w3.drew HP3.out HML.out.symm (by have h := HO3.out; rw [HML.out] at h; exact h) hgrk
        have HCW : Hid (∀ vg, BNe (B + k) w3.drew vg p → Calls Tryd.prog 11 #[.pointer (some ⟨B + k, 0, none⟩), vg] w3.drew fun e w' => e = .returned (.tuple #[]) ∧ HRow w' (B + k) (q k ++ p) (q k ++ p).length (q k ++ p).length ∧ But (B + k) w3.drew w' ∧ w'.cell? ⟨gh, k, none⟩ = some (.pointer (some ⟨B + k, 0, none⟩)) ∧ w'.cell? ⟨go', 2, none⟩ = some (.slice ap p.length cp)) := fun vg hv =>
          (write_any (B + k) vg (q k) p w3.drew (HI3.out.ho k hk3).2 (by have := HQL.out k hk3; have := HSL.out; have := HSM.out; omega) hv HTK3.out.k (by have := HT.out.ltK; have := HBe.out; omega) (HI3.out.hr k hk3)).mono (by
            rintro e w' ⟨rfl, hrow, hbut⟩
            rw [← List.length_append] at hrow
            exact ⟨rfl, hrow, hbut, hbut.cell p3 hghk, hbut.cell o3 hgok⟩)
        clear ho hb3 hml
        have hk0I : (0 : Int) ≤ (k : Int) := by omega
        have hk3I : (k : Int) < 3 := by omega
        go_wp2_with fail
        go_region_held3 (fun w' => w'.cell? ⟨gh, k, none⟩ = some (.pointer (some ⟨B + k, 0, none⟩)) ∧ w'.cell? ⟨go', 2, none⟩ = some (.slice ap p.length cp)) (first | (constructor <;> assumption) | go_keep)
          (first
            | (go_at_call 23; refine HCG.out.mono ?_; rintro e w' ⟨vg, rfl, hvg, rfl⟩)
            | (go_at_call 11; refine (HCW.out _ (by assumption)).mono ?_; rintro e w' ⟨rfl, hrow, hbut, hc1, hc2⟩))
        have HB4 := hide (‹But (B + k) w3.drew w'›)
        have HR4 := hide (‹HRow w' (B + k) (q k ++ p) (q k ++ p).length (q k ++ p).length›)
        have o4 : w'.cell? ⟨go', 2, none⟩ = some (.slice ap p.length cp) := ‹_›
        have HI3d : Hid (SInv w w3.drew B q q A) := HI3.out.below (Below.refl _ _).drew
        have HI4 := hide (HI3d.out.write hk3 HB4.out HR4.out)
        have HO4 : Hid (Own w' w2.heap.size (.slice (some ⟨gr, 0, none⟩) (p ++ marks 150).length cr) (p ++ marks 150)) := HO3.out.keptIf (fun g hg => by
          simp only [Value.ownBlock, Option.some.injEq] at hg
          subst hg
          exact HB4.out.block gr hgrl hgrk)
        have HP4 := hide (HPS.out.below (HWX.out _ _ _ _ HI4.out))
        obtain ⟨w4, hw4⟩ : ∃ w4, w' = w4 := ⟨_, rfl⟩
        rw [hw4] at HI4 HO4 HP4 o4 ⊢
        have h24 : w2.heap.size ≤ w4.heap.size := by rw [← hw4]; have := HB4.out.size; exact Nat.le_trans (by have := HI3.out.hz; exact Nat.le_of_lt (Nat.lt_of_le_of_lt hgr hgrl)) this
        have hgo4 : go' < w4.heap.size := World.block_lt_of_cell? w4 ⟨go', 2, none⟩ o4
        clear hw4 HCG HCW HB4 HR4 HI3 HI3d HO3 HP3 HTK3 p3 o3
        have HUT := hide (untouched_any gr cr _ p w4 w2.heap.size HP4.out (by have := HSL.out; have := HSM.out; omega) HO4.out)
        go_wp2_with fail
        refine HUT.out.mono ?_
        rintro e w5 ⟨rfl, n5, rfl⟩
        obtain ⟨mi, hmi⟩ : ∃ mi, i % 256 = mi := ⟨_, rfl⟩
        have hmiI : (i : Int) % 256 = (mi : Int) := by omega
        have hmi256 : mi < 256 := by omega
        have HI5 : Hid (SInv w (w4.drewN n5) B (upd q k (q k ++ p)) q A) := HI4.out.below (below_drewN (Below.refl _ _) n5)
        have HO5 : Hid (Own (w4.drewN n5) w2.heap.size (.slice (some ⟨gr, 0, none⟩) (p ++ marks 150).length cr) (p ++ marks 150)) := HO4.out
        have o5 : (w4.drewN n5).cell? ⟨go', 2, none⟩ = some (.slice ap p.length cp) := o4
        have HSP := hide (spoil_fine gr cr mi (p.length + 150) (p ++ marks 150) w2.heap.size (w4.drewN n5) hmi256 (by rw [HML.out]; exact Nat.le_refl _) (by rw [HML.out]; have := HSL.out; have := HSM.out; omega) hgr HO5.out)
        clear hmi HUT HI4 HO4 HP4 o4
        generalize w4.drewN n5 = w5 at *
        go_wp2_with fail
        refine HSP.out.mono ?_
        rintro e w6 ⟨rfl, hos, hbs, hss, hoth⟩
        have HI6 := hide (HI5.out.frame HAB.out hgrB hoth (hbs.mono (by have := HI2.out.hz; omega)))
        have o6 : w6.cell? ⟨go', 2, none⟩ = some (.slice ap p.length cp) := by
          rw [World.cell?_of_block (w := w5) (hoth go' hne4)]; exact o5
        have HP6 := hide (HPS.out.below (HWX.out _ _ _ _ HI6.out))
        clear hos hbs hss hoth HSP HI5 HO5 o5
        have a6 : w6.cell? ⟨ga, k, none⟩ = some (A k) := by rw [← HGA.out]; exact HI6.out.acell hk3
        obtain ⟨aA, cA, hAk, hlA, hmA⟩ : ∃ a c, A k = .slice a (q k).length c ∧ (q k).length ≤ c ∧ c ≤ maxLen := by
          obtain ⟨a, c, e, h1, h2, _⟩ := (HI6.out.ho k hk3).bsl
          exact ⟨a, c, e, h1, h2⟩
        have HAK := hide hAk
        rw [hAk] at a6
        have HOA : Hid (Own w6 (B + 5) (.slice aA (q k).length cA) (q k)) := by have h := HI6.out.ho k hk3; rw [hAk] at h; exact h
        unfold maxLen at hmA
        have HIN := hide HI6.out.hz
        clear hAk
        go_wp2
        have HF7 : Hid (∀ wz : World, Below (B + 5) w6.drew wz → wz.cell? ⟨ga, k, none⟩ = some (.slice aA (q k).length cA) ∧ wz.frozen? ⟨ga, k, none⟩ = false) := fun wz hb => by
          have hrw : wz.heap[ga]? = some (.cells #[A 0, A 1, A 2] 22 (0, 0)) := by rw [hb.block ga (by have := HGA.out; omega), ← HGA.out]; exact HI6.out.ha
          refine ⟨?_, frozen_of_row _ _ _ _ 22 hrw⟩
          rw [World.cell?_of_block (w := w6) (show wz.heap[ga]? = w6.heap[ga]? from hb.block ga (by have := HGA.out; omega))]; exact a6
        have HPUT : Hid (∀ v7 w7, Own w7 (B + 5) v7 (q k ++ p) → Below (B + 5) w6.drew w7 → Keeps w6.drew w7 (.slice aA (q k).length cA) v7 → SInv w (w7.setCell ⟨ga, k, none⟩ v7) B (upd q k (q k ++ p)) (upd q k (q k ++ p)) (upd A k v7)) := fun v7 w7 h1 h2 h3 => by
          rw [← HGA.out]
          refine SInv.put (wx := w6.drew) (HI6.out.below (Below.refl _ _).drew) hk3 h2 h1 fun j hj hne => ?_
          refine h3 (B + 5) (A j) (q j) ?_ ?_
          · exact HI6.out.ho j hj
          · rw [← HAK.out]; exact HI6.out.ap k j hk3 hj (Ne.symm hne)
        have HBD : Hid (∀ j, j < 3 → (upd q k (q k ++ p) j).length ≤ ((ss.take (i + 1)).map (fun s => s.p.length)).sum) := fun j hj => by
          rw [HSM.out]
          by_cases e : j = k
          · subst e; rw [upd_same, List.length_append]; have := HQL.out j hj; omega
          · rw [upd_other _ _ e]; have := HQL.out j hj; omega
        go_region_law (refine step_app2 rfl (.tmp 75) (.tmp 77) rfl (B + 5) _ _ (q k) p (by rfl) (by rfl) HOA.out HP6.out (by have := HQL.out k hk3; have := HSL.out; have := HSM.out; omega) HIN.out ?_; intro v7 w7 hown7 hbl7 hs7 hkeep7 hcells7; obtain ⟨s7, f7⟩ := HF7.out w7 hbl7; obtain ⟨a7, c7, hv7⟩ := own_form hown7; rw [List.length_append] at hv7; subst hv7; have R7 := hide (HPUT.out _ _ hown7 hbl7 hkeep7); clear hown7 hbl7 hkeep7 hcells7)
        all_goals
          clear s7 f7 a6 o6 HF7 HPUT HOA HP6 HI6 HAK HIN
          go_wp2
          go_roundw
          case rel => exact ⟨i + 1, _, _, by omega, by go_num, R7.out, HBD.out⟩
          case measure => simp [intOf]; omega
      · have HB0 : Hid (∀ j, j < 3 → (q j).length ≤ ((ss.take (i + 1)).map (fun s => s.p.length)).sum) := fun j hj => by
          rw [HSM.out]; have := HQL.out j hj; omega
        have hk0I : (0 : Int) ≤ (k : Int) := by omega
        have hk3I : (k : Int) < 3 := by omega
        have p2 : w2.cell? ⟨gh, k, none⟩ = some (.pointer (some ⟨B + k, 0, none⟩)) := by rw [← HGH.out]; exact HI2.out.pcell hk3
        have a2 : w2.cell? ⟨ga, k, none⟩ = some (A k) := by rw [← HGA.out]; exact HI2.out.acell hk3
        obtain ⟨aA, cA, hAk⟩ := own_form (HI2.out.ho k hk3)
        have hAk' := HI2.out.ho k hk3
        rw [hAk] at a2 hAk'
        have HOA := hide hAk'
        have hqk : (q k).length ≤ 1048576 := by have := HQL.out k hk3; have := HSL.out; have := HSM.out; omega
        have hcA : (q k).length ≤ cA ∧ cA ≤ maxLen := by
          obtain ⟨a', c', e, h1, h2, _⟩ := hAk'.bsl
          simp only [Value.slice.injEq, true_and] at e
          obtain ⟨_, rfl⟩ := e
          exact ⟨h1, h2⟩
        obtain ⟨hcA1, hcA2⟩ := hcA
        unfold maxLen at hcA2
        have HT2 : Hid (Tabs w2) := HT.out.below (HWX.out _ _ _ _ HI2.out)
        clear hAk hAk'
        by_cases hks : kd = 1
        · subst hks
          go_wp2_with fail
          refine (sum_any (B + k) (q k) w2 (HI2.out.ho k hk3).2 (by omega) HT2.out.k HT2.out.ltK (HI2.out.hr k hk3)).mono ?_
          rintro e w3 ⟨rfl, hb3⟩
          obtain ⟨f1, f2, f3⟩ := sum_shape (q k)
          have HEQ : Hid (∀ wx, Calls Tryd.prog 15 #[.agg ((shaL (q k)).map byteV).toArray, .agg ((shaL (q k)).map byteV).toArray] wx fun e w' => e = .returned (.bool true) ∧ Below wx.heap.size wx w') := fun wx => equal_list (shaL_len _) wx
          obtain ⟨sa, hsa⟩ : ∃ sa, ((shaL (q k)).map byteV).toArray = sa := ⟨_, rfl⟩
          rw [hsa] at f1 f2 f3 HEQ ⊢
          have HSA := hide hsa
          have HBW3 : Hid (Below w2.heap.size w2 (w3.alloc (.cells sa 29))) := hb3.alloc hb3.size _
          have HI3 := hide (HI2.out.below HBW3.out)
          have HR3 := hide (Go.heap_alloc_new w3 (.cells sa 29))
          clear hb3 hsa
          go_wp2_with (first
            | refine wpList_alloc_as rfl 29 rfl (.agg zero32) zero32 Tryd.zero32 rfl ?_
            | (refine wpList_store_row rfl 29 (.tmp 9) (.tmp 86) rfl w3.heap.size sa (by first | rfl | simp [Act.eval, Act.put]) (by first | rfl | simp [Act.eval, Act.put]) 29 zero32 (Go.heap_alloc_new w3 _) f1 f2 f3 ?_; rw [World.setRow_alloc_new]))
          obtain ⟨W3, hW3⟩ : ∃ W3, w3.alloc (.cells sa 29) = W3 := ⟨_, rfl⟩
          rw [hW3] at HBW3 HI3 HR3 ⊢
          obtain ⟨g3, hg3⟩ : ∃ g3, w3.heap.size = g3 := ⟨_, rfl⟩
          rw [hg3] at HR3 ⊢
          have HRG : Hid (∀ wx, Below W3.heap.size W3 wx → wx.rangeAt g3 0 sa.toList ∧ wx.cell? ⟨ga, k, none⟩ = some (.slice aA (q k).length cA)) := fun wx hb => by
            refine ⟨range_row (heap_kept hb HR3.out), ?_⟩
            have hlt2 := World.block_lt_of_cell? w2 ⟨ga, k, none⟩ a2
            rw [hb.cell (p := ⟨ga, k, none⟩) (Nat.lt_of_lt_of_le hlt2 HBW3.out.size), HBW3.out.cell (p := ⟨ga, k, none⟩) hlt2]; exact a2
          have HC1 : Hid (∀ wx, Below W3.heap.size W3 wx → Calls Tryd.prog 24 #[.slice aA (q k).length cA] wx fun e w' => e = .returned (.agg sa) ∧ (w'.rangeAt g3 0 sa.toList ∧ w'.cell? ⟨ga, k, none⟩ = some (.slice aA (q k).length cA)) ∧ Below W3.heap.size W3 w') := fun wx hb => by
            have hI := HI3.out.below hb
            have hbsl : BSl wx (.slice aA (q k).length cA) (q k) := ((HOA.out.kept HBW3.out).kept hb).bsl
            refine (refSum_any _ (q k) wx hbsl (by omega) (HTB.out.below (HWX.out _ _ _ _ hI)) (HTR.out.below (HWX.out _ _ _ _ hI))).mono ?_
            rintro e w' ⟨rfl, hb'⟩
            have hbb := hb.trans (hb'.mono hb.size)
            exact ⟨by rw [HSA.out], HRG.out _ hbb, hbb⟩
          have HC2 : Hid (∀ wx, Below W3.heap.size W3 wx → Calls Tryd.prog 15 #[.agg sa, .agg sa] wx fun e w' => e = .returned (.bool true) ∧ (w'.rangeAt g3 0 sa.toList ∧ w'.cell? ⟨ga, k, none⟩ = some (.slice aA (q k).length cA)) ∧ Below W3.heap.size W3 w') := fun wx hb =>
            (HEQ.out wx).mono (by
              rintro e w' ⟨rfl, hb'⟩
              have hbb := hb.trans (hb'.mono hb.size)
              exact ⟨rfl, HRG.out _ hbb, hbb⟩)
          have hu := Tryd.underlying29
          have hi : (Tryd.prog.info? 29).map (·.size) = some sa.toList.length := by rw [Array.length_toList]; exact f1
          have hb0 : Below W3.heap.size W3 W3.drew := (Below.refl _ _).drew
          obtain ⟨hr0, hr0c⟩ := HRG.out _ hb0
          clear hW3 hg3 p2 a2
          go_region_held3 (fun w' => w'.rangeAt g3 0 sa.toList ∧ w'.cell? ⟨ga, k, none⟩ = some (.slice aA (q k).length cA) ∧ Below W3.heap.size W3 w') (first | exact ⟨by assumption, by assumption, by assumption⟩ | go_keep_ranges)
            (first
              | (go_at_call 24; refine (HC1.out _ (by assumption)).mono ?_; rintro e w' ⟨rfl, ⟨hr1, hr1c⟩, hb1⟩)
              | (go_at_call 15; refine (HC2.out _ (by assumption)).mono ?_; rintro e w' ⟨rfl, ⟨hr1, hr1c⟩, hb1⟩))
          have hbW := ‹Below W3.heap.size W3 w'›
          have RI := hide (HI3.out.below hbW)
          clear hbW hb0 hr0 hr0c HC1 HC2 HRG HR3 HBW3 HI3 HEQ HSA f1 f2 f3 hi
          go_wp2
          go_roundw
          case rel => exact ⟨i + 1, _, _, by omega, by go_num, RI.out, HB0.out⟩
          case measure => simp [intOf]; omega
        · by_cases hkc : kd = 2
          · subst hkc
            have HCC : Hid (Calls Tryd.prog 16 #[.pointer (some ⟨B + k, 0, none⟩)] w2.drew fun e w' => e = .returned (.int .u64 ((q k).length : Int)) ∧ w' = w2.drew) := by
              obtain ⟨buf, hbl, _, _, hrow⟩ := HI2.out.hr k hk3
              exact count_any (B + k) (q k).length w2.drew (row_cell72 hbl hrow)
            have RI : Hid (SInv w w2.drew B q q A) := HI2.out.below (Below.refl _ _).drew
            have hcv : IntKind.u64.wrap ((q k).length : Int) = ((q k).length : Int) := by simp [IntKind.wrap, IntKind.bits, IntKind.signed]; omega
            go_wp2_with fail
            go_region_held3 (fun w' => w'.cell? ⟨gh, k, none⟩ = some (.pointer (some ⟨B + k, 0, none⟩)) ∧ w'.cell? ⟨ga, k, none⟩ = some (.slice aA (q k).length cA)) (first | (constructor <;> assumption) | go_keep)
              (first
                | (go_at_call 16; refine HCC.out.mono ?_; rintro e w' ⟨rfl, rfl⟩))
            all_goals
              go_wp2
              go_roundw
              case rel => exact ⟨i + 1, _, _, by omega, by go_num, RI.out, HB0.out⟩
              case measure => simp [intOf]; omega
          · by_cases hkr : kd = 3
            · subst hkr
              go_wp2_with fail
              refine (reset_any (B + k) (q k) _ _ w2 HT2.out.h (HI2.out.hr k hk3)).mono ?_
              rintro e w3 ⟨rfl, hrow, hbut⟩
              have HI3 := hide (HI2.out.write (l := []) hk3 hbut hrow)
              have a3 : w3.cell? ⟨ga, k, none⟩ = some (A k) := by rw [← HGA.out]; exact HI3.out.acell hk3
              have f3 : w3.frozen? ⟨ga, k, none⟩ = false := by rw [← HGA.out]; exact HI3.out.afree
              have RI : Hid (SInv w (w3.setCell ⟨ga, k, none⟩ (.slice none 0 0)) B (upd q k []) (upd q k []) (upd A k (.slice none 0 0))) := by
                rw [← HGA.out]
                exact SInv.put HI3.out hk3 (Below.refl _ _) (own_nil' _ _) fun j hj hne => ⟨HI3.out.ho j hj, apart_nil _⟩
              have HBR : Hid (∀ j, j < 3 → (upd q k [] j).length ≤ ((ss.take (i + 1)).map (fun s => s.p.length)).sum) := fun j hj => by
                by_cases e : j = k
                · subst e; rw [upd_same]; exact Nat.zero_le _
                · rw [upd_other _ _ e]; exact HB0.out j hj
              clear hrow hbut HI3 p2 a2
              go_wp2
              go_roundw
              case rel => exact ⟨i + 1, _, _, by omega, by go_num, RI.out, HBR.out⟩
              case measure => simp [intOf]; omega
            · have RI := hide HI2.out
              clear p2 a2
              go_wp2
              go_roundw
              case rel => exact ⟨i + 1, _, _, by omega, by go_num, RI.out, HB0.out⟩
              case measure => simp [intOf]; omega
    · have hie : i = ss.length := by omega
      subst hie
      have HIE := hide hinv
      have hqb : ∀ k, k < 3 → (q k).length ≤ 1048576 := fun k hk => Nat.le_trans (hql k hk) (Nat.le_trans (sum_take_le _ _) HSU.out)
      have HQB := hide hqb
      clear hinv hql hlt hi hqb
      go_wp2_with fail
      go_loopw [10] (fun kv wx => ∃ k : Nat, k ≤ 3 ∧ kv = .int .i64 k ∧ SInv w wx B q q A) (fun kv _ => 3 - (intOf kv).toNat)
      case atStart => exact ⟨0, Nat.zero_le _, rfl, HIE.out⟩
      case round =>
        clear HIE
        obtain ⟨k, hk, rfl, hinv⟩ := hrel
        by_cases hk3 : k < 3
        · have HI2 := hide hinv
          have hk0I : (0 : Int) ≤ (k : Int) := by omega
          have hk3I : (k : Int) < 3 := by omega
          have p2 : wr.cell? ⟨gh, k, none⟩ = some (.pointer (some ⟨B + k, 0, none⟩)) := by rw [← HGH.out]; exact HI2.out.pcell hk3
          have a2 : wr.cell? ⟨ga, k, none⟩ = some (A k) := by rw [← HGA.out]; exact HI2.out.acell hk3
          obtain ⟨aA, cA, hAk⟩ := own_form (HI2.out.ho k hk3)
          have hAk' := HI2.out.ho k hk3
          rw [hAk] at a2 hAk'
          have HOA := hide hAk'
          have hqk := HQB.out k hk3
          have hcA : (q k).length ≤ cA ∧ cA ≤ maxLen := by
            obtain ⟨a', c', e, h1, h2, _⟩ := hAk'.bsl
            simp only [Value.slice.injEq, true_and] at e
            obtain ⟨_, rfl⟩ := e
            exact ⟨h1, h2⟩
          obtain ⟨hcA1, hcA2⟩ := hcA
          unfold maxLen at hcA2
          have HT2 : Hid (Tabs wr) := HT.out.below (HWX.out _ _ _ _ HI2.out)
          clear hAk hAk' hinv
          have hcv : IntKind.u64.wrap ((q k).length : Int) = ((q k).length : Int) := by simp [IntKind.wrap, IntKind.bits, IntKind.signed]; omega
          go_wp2_with fail
          refine (sum_any (B + k) (q k) wr (HI2.out.ho k hk3).2 (by omega) HT2.out.k HT2.out.ltK (HI2.out.hr k hk3)).mono ?_
          rintro e w3 ⟨rfl, hb3⟩
          obtain ⟨f1, f2, f3⟩ := sum_shape (q k)
          have HEQ : Hid (∀ wx, Calls Tryd.prog 15 #[.agg ((shaL (q k)).map byteV).toArray, .agg ((shaL (q k)).map byteV).toArray] wx fun e w' => e = .returned (.bool true) ∧ Below wx.heap.size wx w') := fun wx => equal_list (shaL_len _) wx
          obtain ⟨sa, hsa⟩ : ∃ sa, ((shaL (q k)).map byteV).toArray = sa := ⟨_, rfl⟩
          rw [hsa] at f1 f2 f3 HEQ ⊢
          have HSA := hide hsa
          have HBW3 : Hid (Below wr.heap.size wr (w3.alloc (.cells sa 29))) := hb3.alloc hb3.size _
          have HI3 := hide (HI2.out.below HBW3.out)
          have HR3 := hide (Go.heap_alloc_new w3 (.cells sa 29))
          clear hb3 hsa
          go_wp2_with (first
            | refine wpList_alloc_as rfl 29 rfl (.agg zero32) zero32 Tryd.zero32 rfl ?_
            | (refine wpList_store_row rfl 29 (.tmp 11) (.tmp 127) rfl w3.heap.size sa (by first | rfl | simp [Act.eval, Act.put]) (by first | rfl | simp [Act.eval, Act.put]) 29 zero32 (Go.heap_alloc_new w3 _) f1 f2 f3 ?_; rw [World.setRow_alloc_new]))
          obtain ⟨W3, hW3⟩ : ∃ W3, w3.alloc (.cells sa 29) = W3 := ⟨_, rfl⟩
          rw [hW3] at HBW3 HI3 HR3 ⊢
          obtain ⟨g3, hg3⟩ : ∃ g3, w3.heap.size = g3 := ⟨_, rfl⟩
          rw [hg3] at HR3 ⊢
          have HRG : Hid (∀ wx, Below W3.heap.size W3 wx → wx.rangeAt g3 0 sa.toList ∧ wx.cell? ⟨ga, k, none⟩ = some (.slice aA (q k).length cA) ∧ wx.cell? ⟨gh, k, none⟩ = some (.pointer (some ⟨B + k, 0, none⟩))) := fun wx hb => by
            refine ⟨range_row (heap_kept hb HR3.out), ?_, ?_⟩
            · have hlt2 := World.block_lt_of_cell? wr ⟨ga, k, none⟩ a2
              rw [hb.cell (p := ⟨ga, k, none⟩) (Nat.lt_of_lt_of_le hlt2 HBW3.out.size), HBW3.out.cell (p := ⟨ga, k, none⟩) hlt2]; exact a2
            · have hlt2 := World.block_lt_of_cell? wr ⟨gh, k, none⟩ p2
              rw [hb.cell (p := ⟨gh, k, none⟩) (Nat.lt_of_lt_of_le hlt2 HBW3.out.size), HBW3.out.cell (p := ⟨gh, k, none⟩) hlt2]; exact p2
          have HC1 : Hid (∀ wx, Below W3.heap.size W3 wx → Calls Tryd.prog 24 #[.slice aA (q k).length cA] wx fun e w' => e = .returned (.agg sa) ∧ (w'.rangeAt g3 0 sa.toList ∧ w'.cell? ⟨ga, k, none⟩ = some (.slice aA (q k).length cA) ∧ w'.cell? ⟨gh, k, none⟩ = some (.pointer (some ⟨B + k, 0, none⟩))) ∧ Below W3.heap.size W3 w') := fun wx hb => by
            have hI := HI3.out.below hb
            have hbsl : BSl wx (.slice aA (q k).length cA) (q k) := ((HOA.out.kept HBW3.out).kept hb).bsl
            refine (refSum_any _ (q k) wx hbsl (by omega) (HTB.out.below (HWX.out _ _ _ _ hI)) (HTR.out.below (HWX.out _ _ _ _ hI))).mono ?_
            rintro e w' ⟨rfl, hb'⟩
            have hbb := hb.trans (hb'.mono hb.size)
            exact ⟨by rw [HSA.out], HRG.out _ hbb, hbb⟩
          have HC2 : Hid (∀ wx, Below W3.heap.size W3 wx → Calls Tryd.prog 15 #[.agg sa, .agg sa] wx fun e w' => e = .returned (.bool true) ∧ (w'.rangeAt g3 0 sa.toList ∧ w'.cell? ⟨ga, k, none⟩ = some (.slice aA (q k).length cA) ∧ w'.cell? ⟨gh, k, none⟩ = some (.pointer (some ⟨B + k, 0, none⟩))) ∧ Below W3.heap.size W3 w') := fun wx hb =>
            (HEQ.out wx).mono (by
              rintro e w' ⟨rfl, hb'⟩
              have hbb := hb.trans (hb'.mono hb.size)
              exact ⟨rfl, HRG.out _ hbb, hbb⟩)
          have HC3 : Hid (∀ wx, Below W3.heap.size W3 wx → Calls Tryd.prog 16 #[.pointer (some ⟨B + k, 0, none⟩)] wx fun e w' => e = .returned (.int .u64 ((q k).length : Int)) ∧ w' = wx) := fun wx hb => by
            obtain ⟨buf, hbl, _, _, hrow⟩ := (HI3.out.below hb).hr k hk3
            exact count_any (B + k) (q k).length wx (row_cell72 hbl hrow)
          have hu := Tryd.underlying29
          have hi : (Tryd.prog.info? 29).map (·.size) = some sa.toList.length := by rw [Array.length_toList]; exact f1
          have hb0 : Below W3.heap.size W3 W3.drew := (Below.refl _ _).drew
          obtain ⟨hr0, hr0c, hr0p⟩ := HRG.out _ hb0
          clear hW3 hg3 p2 a2
          go_region_held3 (fun w' => w'.rangeAt g3 0 sa.toList ∧ w'.cell? ⟨ga, k, none⟩ = some (.slice aA (q k).length cA) ∧ w'.cell? ⟨gh, k, none⟩ = some (.pointer (some ⟨B + k, 0, none⟩)) ∧ Below W3.heap.size W3 w') (first | exact ⟨by assumption, by assumption, by assumption, by assumption⟩ | go_keep_ranges)
            (first
              | (go_at_call 24; refine (HC1.out _ (by assumption)).mono ?_; rintro e w' ⟨rfl, ⟨hr1, hr1c, hr1p⟩, hb1⟩)
              | (go_at_call 15; refine (HC2.out _ (by assumption)).mono ?_; rintro e w' ⟨rfl, ⟨hr1, hr1c, hr1p⟩, hb1⟩)
              | (go_at_call 16; refine (HC3.out _ (by assumption)).mono ?_; rintro e w' ⟨rfl, rfl⟩))
          all_goals
            have hbW := ‹Below W3.heap.size W3 w'›
            have RI := hide (HI3.out.below hbW)
            clear hbW hb0 hr0 hr0c hr0p HC1 HC2 HC3 HRG HR3 HBW3 HI3 HEQ HSA f1 f2 f3 hi
            go_wp2
            go_roundw
            case rel => exact ⟨k + 1, by omega, by go_num, RI.out⟩
            case measure => simp [intOf]; omega
        · have HBF := hide (HWX.out _ _ _ _ hinv)
          clear hinv
          go_wp2
          go_ret
          exact ⟨rfl, HBF.out⟩
end Go.Proofs.YtbkcenpohcjgnabDoor
