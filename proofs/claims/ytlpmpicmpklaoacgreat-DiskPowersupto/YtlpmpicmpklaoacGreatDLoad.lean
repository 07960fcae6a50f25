import Derived.Test.YtlpmpicmpklaoacGreatDNew2
namespace Go.Proofs.YtlpmpicmpklaoacGreat
open Go.RowKit Go.Maps
set_option linter.unusedVariables false
set_option linter.unusedSimpArgs false
set_option maxRecDepth 20000

/-- the bytes of one block of an image -/
def cutOf (m : List Nat) (sz i : Nat) : List Nat := (m.drop (i * sz)).take sz
theorem cut_len {m : List Nat} {nb sz i : Nat} (h : m.length = nb * sz) (hi : i < nb) : (cutOf m sz i).length = sz := by
  unfold cutOf
  rw [List.length_take, List.length_drop, h]
  have : (i + 1) * sz ≤ nb * sz := Nat.mul_le_mul_right _ hi
  rw [Nat.succ_mul] at this
  omega
theorem cut_get {m : List Nat} {nb sz i j : Nat} (h : m.length = nb * sz) (hi : i < nb) (hj : j < sz) : (cutOf m sz i).getD j 0 = m.getD (i * sz + j) 0 := by
  unfold cutOf
  simp only [List.getD, List.getElem?_take, if_pos hj, List.getElem?_drop]
theorem BSl.cut {w : World} {a : Option Addr} {n cap nb sz i : Nat} {m : List Nat} (h : BSl w (.slice a n cap) m) (hm : m.length = nb * sz) (hi : i < nb) (hs : 0 < sz) :
    ∃ b off, a = some ⟨b, off, none⟩ ∧ n = nb * sz ∧ n ≤ cap ∧ cap ≤ maxLen ∧ BSl w (.slice (some ⟨b, off + i * sz, none⟩) sz (cap - i * sz)) (cutOf m sz i) := by
  obtain ⟨a', cap', e, h1, h2, h3, h4, h5⟩ := h
  simp only [Value.slice.injEq] at e
  obtain ⟨rfl, rfl, rfl⟩ := e
  have hle : (i + 1) * sz ≤ nb * sz := Nat.mul_le_mul_right _ hi
  rw [Nat.succ_mul] at hle
  obtain ⟨b, off, rfl, hc⟩ := h5 (by omega)
  have hl := cut_len hm hi
  refine ⟨b, off, rfl, hm, h1, h2, ⟨some ⟨b, off + i * sz, none⟩, cap - i * sz, by rw [hl], by rw [hl]; omega, by omega, by simp, fun x hx => h4 x ?_, fun _ => ⟨b, off + i * sz, rfl, fun j hj => ?_⟩⟩⟩
  · exact List.mem_of_mem_drop (List.mem_of_mem_take hx)
  · rw [hl] at hj
    rw [cut_get hm hi hj, Nat.add_assoc]
    exact hc (i * sz + j) (by omega)

structure LInv (w wr : World) (nb sz i : Nat) (m : List Nat) : Prop where
  hi : i ≤ nb
  row : wr.heap[w.heap.size]? = some (.cells (midRow nb i fun j => sl (w.heap.size + 1 + j) sz) 22 (0, 0))
  pc : ∀ j, j < i → PieceAt wr (w.heap.size + 1 + j) (cutOf m sz j)
  be : Below w.heap.size w wr
  sz : wr.heap.size = w.heap.size + 1 + i

set_option maxHeartbeats 1000000 in
theorem loaded_any (w : World) (nb sz : Nat) (v : Value) (m : List Nat) (hv : BSl w v m) (hm : m.length = nb * sz) (h1 : 1 ≤ nb) (hnb : nb ≤ 8192) (hsz : sz = 128 ∨ sz = 256 ∨ sz = 512 ∨ sz = 1024) :
    Calls Tryz.prog 39 #[.int .i64 (nb : Int), .int .i64 (sz : Int), v] w fun e w' => e = .returned (.slice (some ⟨w.heap.size, 0, none⟩) nb nb) ∧ LInv w w' nb sz nb m := by
  have hszn : sz ≤ 281474976710656 := by omega
  obtain ⟨a, cap, ev, -⟩ := id hv
  subst ev
  have HV := hide hv
  clear hv
  obtain ⟨N, hN⟩ : ∃ N, nb * sz = N := ⟨_, rfl⟩
  have hN2 : N ≤ 8388608 := by rw [← hN]; exact Nat.mul_le_mul hnb (show sz ≤ 1024 by omega)
  have HN := hide hN
  have HM := hide hm
  have hmN : m.length = N := hm.trans hN
  rw [hmN] at HV
  have HSZ := hide hsz
  have hs0 : 0 < sz := by omega
  have hs1 : sz ≤ 1024 := by omega
  clear hm hN hsz
  have START : Hid (LInv w (w.alloc (.cells (midRow nb 0 fun j => sl (w.heap.size + 1 + j) sz) 22)) nb sz 0 m) := hide
    ⟨Nat.zero_le _, Go.heap_alloc_new w _, fun j hj => by omega, (Below.refl _ _).alloc (Nat.le_refl _) _, by simp⟩
  rw [hmN]
  clear hmN
  go_enter Tryz.func39, Tryz.ntmps39
  go_wp2_with (first
    | (at_make; refine wpList_nils rfl _ _ rfl _ nb rfl rfl rfl hnb (fun j => sl (w.heap.size + 1 + j) sz) ?_))
  go_loopw [13] (fun x wr => ∃ n : Nat, x = .int .i64 (n : Int) ∧ LInv w wr nb sz n m) (fun x _ => nb - (intOf x).toNat)
  case atStart => exact ⟨0, rfl, START.out⟩
  case round =>
    clear START
    obtain ⟨n, rfl, hI⟩ := hrel
    have hn := hI.hi
    have hsize := hI.sz
    have HI := hide hI
    have hrow := hI.row
    clear hI
    by_cases hlt : n < nb
    · obtain ⟨b, off, rfl, -, hc1, hc2, hcut⟩ := (HV.out.below HI.out.be).cut HM.out hlt hs0
      unfold maxLen at hc2
      obtain ⟨M, hM⟩ : ∃ M, n * sz = M := ⟨_, rfl⟩
      have hMN : M + sz ≤ N := by
        rw [← hM, ← HN.out, ← Nat.succ_mul]
        exact Nat.mul_le_mul_right _ hlt
      have hw1 : wrap64 ((n : Int) * (sz : Int)) = (M : Int) := by
        rw [← Int.natCast_mul, hM]; simp [wrap64]; omega
      have hw2 : wrap64 (((n : Int) + 1) * (sz : Int)) = ((M + sz : Nat) : Int) := by
        have e : ((n : Int) + 1) * (sz : Int) = ((M + sz : Nat) : Int) := by
          rw [Int.add_mul, Int.one_mul, ← Int.natCast_mul, hM]; simp
        rw [e]; simp [wrap64]; omega
      rw [hM] at hcut
      have hcl := cut_len HM.out hlt
      have HCO := hide (copied_any _ _ wr hcut (Nat.le_trans (Nat.le_of_eq hcl) (Nat.le_trans hs1 (by omega))) (by rw [hcl]; exact hs0))
      rw [hcl] at HCO
      have hk1 : ∀ (o : Obj), (wr.alloc o).cell? ⟨w.heap.size, n, none⟩ = some nilS := fun o => by
        rw [cell_of_row _ _ _ _ _ _ ((Below.heap_alloc wr o _ (by omega)).trans hrow), midRow_get _ hlt, if_neg (by omega)]
      have hk2 : ∀ (o : Obj), (wr.alloc o).frozen? ⟨w.heap.size, n, none⟩ = false := fun o => frozen_of_row _ _ _ _ 22 ((Below.heap_alloc wr o _ (by omega)).trans hrow)
      have HNX : Hid (LInv w ((wr.alloc (.cells ((cutOf m sz n).map byteV).toArray 5)).setCell ⟨w.heap.size, n, none⟩ (sl (w.heap.size + 1 + n) sz)) nb sz (n + 1) m) := hide (by
        have h0 := (Below.heap_alloc wr (.cells ((cutOf m sz n).map byteV).toArray 5) w.heap.size (by omega)).trans hrow
        refine ⟨by omega, by rw [← midRow_set _ hlt]; exact Go.heap_setCell_same _ w.heap.size n _ 22 _ h0, fun j hj => ?_, (HI.out.be.alloc HI.out.be.size _).setCell (p := ⟨w.heap.size, n, none⟩) (Nat.le_refl _) _, by simp [World.setCell]; omega⟩
        by_cases e : j = n
        · subst e
          have hb := hcut.lt256
          refine ⟨?_, hb, Nat.le_trans (Nat.le_of_eq hcl) (Nat.le_trans hs1 (by unfold maxLen; omega)), by rw [hcl]; exact hs0⟩
          rw [Go.heap_setCell_other _ _ _ _ (by simp; omega)]
          rw [← hsize]
          exact Go.heap_alloc_new wr _
        · have hp := HI.out.pc j (by omega)
          refine hp.kept ?_
          rw [Go.heap_setCell_other _ _ _ _ (by simp; omega), Below.heap_alloc wr _ _ (by omega)])
      clear hrow hM hcut hcl
      go_wp2_with (go_at_call 77; refine HCO.out.mono ?_; rintro e w2 ⟨rfl, hP2, rfl⟩; rw [hsize]; clear hP2)
      go_roundw
      case rel => exact ⟨n + 1, by go_num, HNX.out⟩
      case measure => simp [intOf]; omega
    · have e : n = nb := by omega
      subst e
      clear hrow
      go_wp2
      go_ret
      exact ⟨rfl, HI.out⟩

theorem Load_any (w : World) (nb sz : Nat) (v : Value) (m : List Nat) (hv : BSl w v m) (hm : m.length = nb * sz) (h1 : 1 ≤ nb) (h2 : nb ≤ 8192) (hs : sz = 128 ∨ sz = 256 ∨ sz = 512 ∨ sz = 1024) :
    Calls Tryz.prog 14 #[.int .i64 (nb : Int), .int .i64 (sz : Int), v] w fun e w' => NewPost w nb sz (cutOf m sz) e w' := by
  have h : goodGeo nb sz = true := decide_eq_true (by omega)
  obtain ⟨a, cap, ev, -⟩ := id hv
  subst ev
  have HB := hide (loaded_any w nb sz _ m hv hm h1 h2 hs)
  have HS := hide hs
  have HM := hide hm
  obtain ⟨N, hN⟩ : ∃ N, nb * sz = N := ⟨_, rfl⟩
  have hN2 : N ≤ 8388608 := by rw [← hN]; exact Nat.mul_le_mul h2 (show sz ≤ 1024 by omega)
  have hmN : m.length = N := hm.trans hN
  have hw1 : wrap64 ((nb : Int) * (sz : Int)) = (N : Int) := by
    rw [← Int.natCast_mul, hN]; simp [wrap64]; omega
  rw [hmN] at HB
  rw [hmN]
  clear hs hm hN hmN hv
  go_enter Tryz.func14, Tryz.ntmps14
  go_wp2_with (first
    | (go_at_call 37; refine (geo_any _ _ _).mono ?_; rintro e w0 ⟨rfl, e0⟩; rw [h]; cases e0)
    | (go_at_call 39; refine HB.out.mono ?_; rintro e w1 ⟨rfl, hI⟩; have HI := hide hI; clear hI)
    | (go_at_call 38; refine (made_any _ _ _ _).mono ?_; rintro e w2 ⟨rfl, rfl⟩))
  go_ret2
  have hm : MedRow w1 w.heap.size nb (cutOf m sz) (fun j => w.heap.size + 1 + j) := ⟨by
    have := HI.out.row
    rw [midRow_full] at this
    rw [this]
    congr 3
    apply List.map_congr_left
    intro j hj
    rw [cut_len HM.out (List.mem_range.1 hj)], fun i hi => HI.out.pc i hi⟩
  have hR := rep_made HI.out.be hm (Nat.le_refl _) (fun _ _ => by omega) h1 h2 HS.out (fun i hi => cut_len HM.out hi)
  exact ⟨_, rfl, hR, (HI.out.be.alloc HI.out.be.size _).alloc (by simp; exact Nat.le_succ_of_le HI.out.be.size) _, fun b hb => hb.1⟩
end Go.Proofs.YtlpmpicmpklaoacGreat
