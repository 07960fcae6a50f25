import Derived.Test.YtlpmpicmpklaoacGreatDRead2
import Derived.Test.YtlpmpicmpklaoacGreatDIs
import Derived.Test.YtlpmpicmpklaoacGreatDNew2
namespace Go.Proofs.YtlpmpicmpklaoacGreat
open Go.RowKit Go.Maps
set_option linter.unusedVariables false
set_option linter.unusedSimpArgs false
set_option maxRecDepth 20000

theorem wp_still_tail {P : Program} {id : Nat} {Q : Exit → Act → World → Prop} {a : Act} {w : World} {l : List Oper} (n : Nat) (hm : P.follows .mixedOrders = true) (hB : Region.lexTailB .any l.toArray n = true)
    (h : wpStill P l.toArray w.drew (fun a' => wpList P l.toArray Q (l.drop n) a' w.drew) (l.take n) a) : (Code.region id l.toArray true).wp P Q a w :=
  wp_region_still_tail n hm hB h

/-- a block's durable bytes, a spoilt one's as zeroes -/
def St.dur (S : St) (k : Nat) : List Nat := (S.med k).getD (zeros S.sz)
def St.img (S : St) : Nat → List Nat
  | 0 => []
  | i + 1 => S.img i ++ S.dur i
/-- the image while it is being made -/
def St.part (S : St) (i : Nat) : List Nat := S.img i ++ zeros ((S.nb - i) * S.sz)

theorem Rep.durLen {w : World} {L : Lay} {S : St} (hR : Rep w L S) {k : Nat} (hk : k < S.nb) : (S.dur k).length = S.sz ∧ ∀ b ∈ S.dur k, b < 256 := by
  unfold St.dur
  cases hq : S.med k with
  | none => exact ⟨zeros_len _, zeros_lt _⟩
  | some l => exact ⟨(hR.medOk hk hq).2, (hR.medOk hk hq).1.1⟩
theorem Rep.imgLen {w : World} {L : Lay} {S : St} (hR : Rep w L S) : ∀ i, i ≤ S.nb → (S.img i).length = i * S.sz ∧ ∀ b ∈ S.img i, b < 256
  | 0, _ => by simp [St.img]
  | i + 1, h => by
    obtain ⟨h1, h2⟩ := hR.imgLen i (by omega)
    obtain ⟨h3, h4⟩ := hR.durLen (k := i) (by omega)
    refine ⟨by rw [St.img, List.length_append, h1, h3, Nat.succ_mul], fun b hb => ?_⟩
    rw [St.img] at hb
    exact (List.mem_append.1 hb).elim (h2 b) (h4 b)
theorem zeros_add (a b : Nat) : zeros (a + b) = zeros a ++ zeros b := by simp [zeros]
theorem Rep.partStep {w : World} {L : Lay} {S : St} (hR : Rep w L S) {i : Nat} (hi : i < S.nb) : S.part i = S.img i ++ (zeros S.sz ++ zeros ((S.nb - (i + 1)) * S.sz)) := by
  unfold St.part
  rw [← zeros_add]
  have e : S.nb - i = (S.nb - (i + 1)) + 1 := by omega
  rw [e, Nat.succ_mul, Nat.add_comm]

theorem splice_mid {α : Type} (a z r l : List α) (M : Nat) (ha : a.length = M) (hz : z.length = l.length) : (a ++ (z ++ r)).take M ++ (l ++ (a ++ (z ++ r)).drop (M + l.length)) = a ++ (l ++ r) := by
  subst ha
  rw [List.take_left, ← List.drop_drop, List.drop_left, ← hz, List.drop_left]

structure GInv (w wr : World) (L : Lay) (S : St) (i : Nat) : Prop where
  hi : i ≤ S.nb
  row : wr.heap[w.heap.size]? = some (.cells ((S.part i).map byteV).toArray 5 (0, 0))
  be : Below w.heap.size w wr

set_option maxHeartbeats 1000000 in
theorem Image_any {w : World} {L : Lay} {S : St} (hR : Rep w L S) :
    Calls Tryz.prog 31 #[PD L] w fun e w' => e = .returned (sl w.heap.size (S.nb * S.sz)) ∧ PieceAt w' w.heap.size (S.img S.nb) ∧ Below w.heap.size w w' := by
  have HR := hide hR
  obtain ⟨hnb1, hnb2⟩ := hR.nb
  have hszs := hR.szs
  have c0 : w.drew.cell? ⟨L.p, 0, none⟩ = some (.int .i64 (S.nb : Int)) := rcell (w := w) (U' := L.U) hR 0
  have c1 : w.drew.cell? ⟨L.p, 1, none⟩ = some (.int .i64 (S.sz : Int)) := rcell (w := w) (U' := L.U) hR 1
  have c2 : w.drew.cell? ⟨L.p, 2, none⟩ = some (medV L S) := rcell (w := w) (U' := L.U) hR 2
  clear hR
  have hmul0 : S.nb * S.sz ≤ 8388608 := Nat.mul_le_mul (show S.nb ≤ 8192 from hnb2) (show S.sz ≤ 1024 by omega)
  obtain ⟨N, hN⟩ : ∃ N, S.nb * S.sz = N := ⟨_, rfl⟩
  rw [hN] at hmul0 ⊢
  have hw1 : IntKind.i64.wrap ((S.nb : Int) * (S.sz : Int)) = (N : Int) := by
    rw [← Int.natCast_mul, hN]; simp [IntKind.wrap, IntKind.bits, IntKind.signed]; omega
  obtain ⟨Z, hZ⟩ : ∃ Z, ((zeros N).map byteV).toArray = Z := ⟨_, rfl⟩
  have START : Hid (GInv w (w.drew.alloc (.cells Z 5)) L S 0) := hide ⟨Nat.zero_le _, by rw [show S.part 0 = zeros N by simp [St.part, St.img, hN], hZ]; exact Go.heap_alloc_new w.drew _, ((Below.refl _ _).drew).alloc (by simp) _⟩
  have HZ := hide hZ
  have HNN := hide hN
  clear hZ hN
  unfold PD
  go_enter Tryz.func31, Tryz.ntmps31
  go_wp2_with fail
  refine wp_still_tail 9 (by kernel_rfl) (by kernel_rfl) ?_
  simp only [List.take_succ_cons, List.take_zero, List.drop_succ_cons, List.drop_zero]
  repeat still_step
  refine wpStill_nil ?_
  have HCELL : Hid (∀ wr, Below w.heap.size w wr → wr.cell? ⟨L.p, 0, none⟩ = some (.int .i64 (S.nb : Int)) ∧ wr.cell? ⟨L.p, 1, none⟩ = some (.int .i64 (S.sz : Int)) ∧ wr.cell? ⟨L.p, 2, none⟩ = some (medV L S)) := hide fun wr hb => ⟨rcell (U' := L.U) (HR.out.below hb) 0, rcell (U' := L.U) (HR.out.below hb) 1, rcell (U' := L.U) (HR.out.below hb) 2⟩
  go_wp2_with (at_make; refine wpList_zeros rfl _ _ rfl _ N rfl rfl rfl (by omega) Z HZ ?_; obtain ⟨d0, d1, d2⟩ := HCELL.out ((w.alloc (.cells Z 5)).drew) START.out.be)
  clear c0 c1 c2 d0 d1 d2
  have q1 := is_nil
  have m1 := lookM
  go_loopw [27] (fun i wr => ∃ n : Nat, i = .int .i64 (n : Int) ∧ GInv w wr L S n) (fun i _ => S.nb - (intOf i).toNat)
  case atStart => exact ⟨0, rfl, START.out⟩
  case round =>
    clear START
    obtain ⟨n, rfl, hI⟩ := hrel
    have hn := hI.hi
    by_cases hlt : n < S.nb
    · have hRw := HR.out.below hI.be
      obtain ⟨A, D, ho, hc⟩ := hRw
      cases hq : S.med n with
      | none =>
        have HL := hide (mlook_none hc hlt hq)
        have HN : Hid (GInv w (wr.alloc (berr n 21)) L S (n + 1)) := hide ⟨by omega, by
          rw [Below.heap_alloc _ _ _ (Array.getElem?_eq_some_iff.1 hI.row).1, hI.row]
          have e : S.part (n + 1) = S.part n := by
            rw [HR.out.partStep hlt]
            unfold St.part
            rw [St.img, List.append_assoc]
            congr 2
            unfold St.dur
            rw [hq]
            rfl
          rw [e], hI.be.alloc hI.be.size _⟩
        have HB := hide (Go.heap_alloc_new wr (berr n 21))
        clear hc ho hq hI
        go_wp2_with (first
          | (go_at_call 134; refine HL.out.mono ?_; rintro e w' ⟨rfl, rfl⟩)
          | (go_at_call 73; refine (is_medium _ _ _ _ HB.out).mono ?_; rintro e w' ⟨rfl, rfl⟩))
        go_roundw
        case rel => exact ⟨n + 1, by go_num, HN.out⟩
        case measure => simp [intOf]; omega
      | some l =>
        have HL := hide (mlook_some hc hlt hq)
        obtain ⟨hok, hlen⟩ := HR.out.medOk hlt hq
        obtain ⟨d0, d1, d2⟩ := HCELL.out _ hI.be
        have HI := hide hI
        obtain ⟨M, hM⟩ : ∃ M, n * S.sz = M := ⟨_, rfl⟩
        have hMN : M + S.sz ≤ N := by
          rw [← hM, ← HNN.out, ← Nat.succ_mul]
          exact Nat.mul_le_mul_right _ hlt
        have hwm : wrap64 ((n : Int) * (S.sz : Int)) = (M : Int) := by
          rw [← Int.natCast_mul, hM]; simp [wrap64]; omega
        have HLEN := hide hlen
        have HOK := hide hok
        have HM := hide hM
        have HPR : Hid (((S.part n).map byteV).toArray.size = N) := hide (by
          rw [List.size_toArray, List.length_map, HR.out.partStep hlt]
          simp only [List.length_append, zeros_len, (HR.out.imgLen n (by omega)).1]
          rw [HM.out, ← HNN.out]
          have : S.nb = n + 1 + (S.nb - (n + 1)) := by omega
          have e2 : S.nb * S.sz = (n + 1 + (S.nb - (n + 1))) * S.sz := by rw [← this]
          rw [e2, Nat.add_mul, Nat.succ_mul, HM.out]
          omega)
        have HSTEP : Hid (∀ g, PieceAt wr g l → GInv w (wr.setRow w.heap.size (((S.part n).map byteV).toArray.toList.take M ++ (l.map byteV ++ ((S.part n).map byteV).toArray.toList.drop (M + (l.map byteV).length))).toArray) L S (n + 1)) := hide fun g hg => ⟨by omega, by
          rw [setRow_heap wr w.heap.size _ _ 5 _ HI.out.row]
          congr 2
          have e1 := HR.out.partStep hlt
          have e2 := (HR.out.imgLen n (by omega)).1
          have e3 : S.part (n + 1) = S.img n ++ (l ++ zeros ((S.nb - (n + 1)) * S.sz)) := by
            unfold St.part
            rw [St.img, List.append_assoc]
            congr 2
            unfold St.dur
            rw [hq]
            rfl
          rw [e1, e3]
          have e4 := splice_mid ((S.img n).map byteV) ((zeros S.sz).map byteV) ((zeros ((S.nb - (n + 1)) * S.sz)).map byteV) (l.map byteV) M (by simp [e2, HM.out]) (by simp [zeros_len, HLEN.out])
          simp only [List.map_append]
          rw [e4], below_setRow HI.out.be (Nat.le_refl _) _⟩
        have HROW := hide HI.out.row
        have hXl : (l.map byteV).length = l.length := by simp
        have HX1 := hide (byteV_oneCell l)
        have HSRC : Hid (∀ g, PieceAt wr g l → ∀ j v, (l.map byteV)[j]? = some v → wr.cell? ((⟨g, 0, none⟩ : Addr).add j) = some v) := hide fun g hg => hg.bsl.news
        have HCS : Hid ((l.map byteV).length = Nat.min l.length (N - M)) := hide (by rw [hXl]; exact (Nat.min_eq_left (by have := HLEN.out; omega)).symm)
        have HFT : Hid (M + (l.map byteV).length ≤ ((S.part n).map byteV).toArray.size) := hide (by rw [HPR.out, hXl, HLEN.out]; exact hMN)
        clear hXl
        generalize ((S.part n).map byteV).toArray = cur at *
        generalize l.map byteV = X at *
        clear hc ho hI hlen hok hM
        unfold sl
        go_wp2_with (first
          | (go_at_call 134; refine HL.out.mono ?_; rintro e w' ⟨g, rfl, hw', hP, -⟩; cases hw'; have HP := hide hP; clear hP)
          | (go_at_call 73; refine (is_nil _ _).mono ?_; rintro e w' ⟨rfl, hw'⟩; cases hw')
          | (refine wpList_copy_own rfl (.tmp 46) (.tmp 47) 22 22 rfl 5 Tryz.underlying22 size_u8 w.heap.size M (N - M) (N - M) ⟨g, 0, none⟩ l.length l.length rfl rfl cur 5 HROW.out X HCS.out (HSRC.out g HP.out) HFT.out HX1.out ?_; have HGN := hide (HSTEP.out g HP.out); generalize wr.setRow w.heap.size (cur.toList.take M ++ (X ++ cur.toList.drop (M + X.length))).toArray = W at *))
        go_roundw
        case rel => exact ⟨n + 1, by go_num, HGN.out⟩
        case measure => simp [intOf]; omega
    · have e : n = S.nb := by omega
      subst e
      have HI := hide hI
      clear hI
      go_wp2
      go_ret
      have e1 : S.part S.nb = S.img S.nb := by simp [St.part, zeros]
      obtain ⟨h1, h2⟩ := HR.out.imgLen S.nb (Nat.le_refl _)
      have hr := HI.out.row
      rw [e1] at hr
      rw [HNN.out] at h1
      have hpos : 0 < N := by rw [← HNN.out]; exact Nat.mul_pos (by omega) (by omega)
      exact ⟨rfl, ⟨hr, h2, by rw [h1]; unfold maxLen; omega, by omega⟩, HI.out.be⟩
end Go.Proofs.YtlpmpicmpklaoacGreat
