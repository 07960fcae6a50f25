import Derived.Test.YtlpmpicmpklaoacGreatERefA
import Derived.Lib.AppendZeros
namespace Go.Proofs.YtlpmpicmpklaoacGreat
open Go.RowKit Go.Maps Go.Sort
set_option linter.unusedVariables false
set_option linter.unusedSimpArgs false
set_option maxRecDepth 20000

theorem run_room (n : Nat) (hn : n ≤ 8388608) : ∃ Z : Array Value, (∀ w : World, (Instr.makeSlice 22 (.int .i64 0) (.int .i64 (n : Int))).run Tryz.prog w = .ok (.slice (some ⟨w.heap.size, 0, none⟩) 0 n) (w.alloc (.cells Z 5))) ∧ Z.size = n := by
  obtain ⟨i0, hi, hz0, hz1, hz2⟩ := info_parts info_u8
  refine ⟨madeCells (Value.int .u8 0).cells (n * 1), fun w => ?_, by simp [madeCells, Value.cells]⟩
  have hr := run_make (P := Tryz.prog) w 22 5 i0 (.int .u8 0) Tryz.underlying22 hi hz0 .i64 .i64 0 (n : Int) (by omega) (by omega) (by rw [hz2]; omega) (by omega)
  simp only [Int.toNat_natCast] at hr
  rw [hz1] at hr
  exact hr
theorem BSl.ofRow {w : World} {base : Nat} {v : Value} {n : Nat} {l : List Nat} (h : w.ownsRow base 5 1 v n (l.map byteV)) (hn : l.length = n) (h0 : 0 < n) (hb : ∀ b ∈ l, b < 256) : BSl w v l := by
  obtain ⟨a, cap, rfl, h1, h2⟩ := rowForm h
  obtain ⟨g, rfl, hc⟩ := rowAt h h0
  subst hn
  refine ⟨_, cap, rfl, h1, h2, by simp, hb, fun _ => ⟨g, 0, rfl, fun i hi => ?_⟩⟩
  rw [Nat.zero_add]
  exact hc i _ (map_byteV_getD hi)

/-- the image while it is being made: in one array, with room for all -/
structure MInv (w wr : World) (S : St) (N M b : Nat) : Prop where
  be : Below w.heap.size w wr
  row : ∃ cur : Array Value, wr.heap[w.heap.size]? = some (.cells cur 5 (0, 0)) ∧ cur.size = N ∧ cur.toList.take M = (S.img b).map byteV
theorem MInv.grown {w wr : World} {S : St} {N M b m : Nat} {cur : Array Value} {l : List Nat} (hb : Below w.heap.size w wr) (hg : wr.heap[w.heap.size]? = some (.cells cur 5 (0, 0))) (hc : cur.size = N) (ht : cur.toList.take M = (S.img b).map byteV) (hl : l.length = m) (hM : M + m ≤ N) (hi : S.img (b + 1) = S.img b ++ l) :
    MInv w (wr.setRow w.heap.size (cur.toList.take M ++ (l.map byteV ++ cur.toList.drop (M + m))).toArray) S N (M + m) (b + 1) := by
  refine ⟨⟨hb.os, hb.tape, hb.output, by simpa using hb.size, fun k hk => ?_⟩, _, setRow_heap _ _ cur _ _ _ hg, ?_, ?_⟩
  · rw [setRow_other _ _ _ _ (by omega)]; exact hb.block k hk
  · simp; omega
  · have hlen : (cur.toList.take M ++ l.map byteV).length = M + m := by simp; omega
    rw [hi, List.map_append, ← ht]
    simp only [List.toList_toArray]
    rw [← List.append_assoc, ← hlen, List.take_left]
theorem run_zapp {w : World} {g n cap k : Nat} {cur : Array Value} (ty : TypeId) (hg : w.heap[g]? = some (.cells cur 5 (0, 0))) (hc : cur.size = cap) (hroom : n + k ≤ cap) (hk : 0 < k) (hk2 : k ≤ 1024) :
    (Builtin.append_ #[22, 3] ty #[.slice (some ⟨g, 0, none⟩) n cap, .int .i64 (k : Int)]).run Tryz.prog w = .ok (.slice (some ⟨g, 0, none⟩) (n + k) cap) (w.setRow g (cur.toList.take n ++ (zeros k).map byteV ++ cur.toList.drop (n + k)).toArray) := by
  obtain ⟨i0, hi, hz0, hz1, hz2⟩ := info_parts info_u8
  have hzc : (Builtin.zeroCells (Value.int .u8 0).cells k).toList = (zeros k).map byteV := by
    apply List.ext_getElem?
    intro i
    by_cases h : i < k
    · simp [Builtin.zeroCells, zeros, byteV, Value.cells, h, Nat.mod_one]
    · simp [Builtin.zeroCells, zeros, byteV, Value.cells, h, Nat.mod_one]
  have hst := run_storeCells_at (P := Tryz.prog) g n 5 ((zeros k).map byteV) 0 cur w hg (by simp [zeros_len]; omega) (byteV_oneCell _)
  have hw : IntKind.i64.wrap (k : Int) = k := by rw [IntKind.wrap_i64]; omega
  have hneg : ¬ ((k : Int) < 0) := by omega
  have h48 : ¬ (281474976710656 < (k : Int) * 1) := by omega
  have hk0 : ¬ k = 0 := by omega
  have h48' : ¬ (281474976710656 < (k : Int)) := by omega
  simp only [Nat.add_zero, List.length_map, zeros_len] at hst
  simp [Builtin.append_, run_underlying Tryz.underlying22, run_underlying Tryz.underlying3, sizeOf, typeInfo, zeroValue, hi, hz0, hz1, hz2, asInt, asIntOf, hw, hneg, h48, h48', hk0, hroom, hzc, Addr.add_lit, hst]
theorem step_appRun {P : Program} {ops : Array Oper} {o : Oper} {a : Act} {w : World} {K : Act → World → Prop} {Q : Exit → Act → World → Prop} {E : Prop} (hg : o.guard = none) (s x : Operand) (t tn : TypeId)
    (ho : o.op = .call { callee := .builtin .append, args := #[s, x], argTypes := #[t, tn] }) (vs vx : Value) (hs : a.eval s = vs) (hx : a.eval x = vx)
    (v' : Value) (w' : World) (hr : (Builtin.append_ #[t, tn] o.type #[vs, vx]).run P w = .ok v' w') (h : K (a.put o.dst v') w') :
    if Region.wanted o (yielded ops a.tmps) = true then Oper.wp P o a w K Q else E := by
  have hw : Region.wanted o (yielded ops a.tmps) = true := by simp [Region.wanted, hg]
  rw [if_pos hw]
  exact Go.Lib.wp_append_run w s x t tn ho vs vx hs hx v' w' hr h

set_option maxHeartbeats 1000000 in
theorem rImage {w : World} {L : RLay} {S : St} {wh : Int} (h : RD w L S wh) :
    Calls Tryz.prog 32 #[PR L] w fun e w' => ∃ v, e = .returned v ∧ BSl w' v (S.img S.nb) ∧ (∀ g, blockOf v = some g → w.heap.size ≤ g) ∧ Below w.heap.size w w' := by
  obtain ⟨i0, hi, hz0, hz1, hz2⟩ := info_parts info_u8
  obtain ⟨R, r1, r2, r3⟩ := h
  have hnb := r1.nb2
  have hnb1 := r1.nb1
  have hszs := r1.szs
  obtain ⟨m1, m2⟩ := r1.mc
  obtain ⟨s1, s2⟩ := r1.sc
  unfold maxLen at m2 s2
  have HR := hide r1
  have HSM := hide r2
  obtain ⟨N, hN⟩ : ∃ N, R.nb * R.sz = N := ⟨_, rfl⟩
  have hN2 : N ≤ 8388608 := by rw [← hN]; exact Nat.mul_le_mul hnb (show R.sz ≤ 1024 by omega)
  have hw1 : wrap64 ((R.nb : Int) * (R.sz : Int)) = (N : Int) := by
    rw [← Int.natCast_mul, hN]; simp [wrap64]; omega
  have hw2 : IntKind.i64.wrap ((R.nb : Int) * (R.sz : Int)) = (N : Int) := by
    rw [← Int.natCast_mul, hN]; simp [IntKind.wrap, IntKind.bits, IntKind.signed]; omega
  obtain ⟨Z, hmk, hZs⟩ := run_room N hN2
  obtain ⟨Z2, hZ2⟩ : ∃ Z2, ((zeros R.sz).map byteV).toArray = Z2 := ⟨_, rfl⟩
  have HZ2 := hide hZ2
  have hmk2 := run_zeros R.sz (by omega) Z2 HZ2
  clear hZ2
  have HNN := hide hN
  have c0 : w.cell? ⟨L.p, 0, none⟩ = some (.int .i64 (R.nb : Int)) := r1.cell 0
  have c1 : w.cell? ⟨L.p, 1, none⟩ = some (.int .i64 (R.sz : Int)) := r1.cell 1
  have hbz := (Below.refl w.heap.size w).alloc (Nat.le_refl _) (.cells Z 5)
  have c0z : (w.alloc (.cells Z 5)).cell? ⟨L.p, 0, none⟩ = some (.int .i64 (R.nb : Int)) := (r1.below hbz).cell 0
  have c1z : (w.alloc (.cells Z 5)).cell? ⟨L.p, 1, none⟩ = some (.int .i64 (R.sz : Int)) := (r1.below hbz).cell 1
  have hdur : ∀ b, S.dur b = if R.sp b then zeros R.sz else (R.med b).l := fun b => by
    unfold St.dur
    rw [r2.med b, ← r2.sz]
    cases R.sp b <;> rfl
  have HDU := hide hdur
  have hdl : ∀ b, b < R.nb → (S.dur b).length = R.sz := fun b hb => by
    rw [hdur b]
    cases R.sp b
    · exact (r1.pm b hb).len
    · exact zeros_len _
  have HIL : Hid (∀ n, n ≤ R.nb → (S.img n).length = n * R.sz ∧ ∀ x ∈ S.img n, x < 256) := hide fun n => by
    induction n with
    | zero => intro _; exact ⟨by simp [St.img], by simp [St.img]⟩
    | succ n ih =>
      intro hn
      obtain ⟨a, b⟩ := ih (by omega)
      refine ⟨?_, fun x hx => ?_⟩
      · show (S.img n ++ S.dur n).length = _
        rw [List.length_append, a, hdl n (by omega), Nat.succ_mul]
      · rcases List.mem_append.1 (show x ∈ S.img n ++ S.dur n from hx) with h | h
        · exact b x h
        · rw [hdur n] at h
          cases hq : R.sp n <;> rw [hq] at h
          · exact (r1.pm n (by omega)).pc.2.1 x h
          · exact zeros_lt _ x h
  have START : Hid (MInv w (w.alloc (.cells Z 5)).drew S N (0 * R.sz) 0) := hide ⟨Below.drew ((Below.refl _ _).alloc (Nat.le_refl _) _), Z, Go.heap_alloc_new w _, hZs, by simp [St.img]⟩
  rw [← HSM.out.nb]
  have hsz0 : R.sz ≤ 1024 := by omega
  have hsz1 : 128 ≤ R.sz := by omega
  clear r1 r2 r3 hN hdur hdl hZs hszs
  unfold PR
  go_enter Tryz.func32, Tryz.ntmps32
  go_wp2_with fail
  go_region_held3 (fun w' => w'.cell? ⟨L.p, 0, none⟩ = some (.int .i64 (R.nb : Int)) ∧ w'.cell? ⟨L.p, 1, none⟩ = some (.int .i64 (R.sz : Int))) (first | exact ⟨c0, c1⟩ | exact ⟨c0z, c1z⟩) (fail)
  go_wp2
  go_loopw [3, 4] (fun lv x wr => ∃ (b : Nat), b ≤ R.nb ∧ x = .int .i64 (b : Int) ∧ lv = .slice (some ⟨w.heap.size, 0, none⟩) (b * R.sz) N ∧ MInv w wr S N (b * R.sz) b) (fun _ x _ => R.nb - (intOf x).toNat)
  case atStart => exact ⟨0, Nat.zero_le _, rfl, by rw [Nat.zero_mul], START.out⟩
  case round =>
    clear START
    obtain ⟨b, hb', rfl, rfl, hI⟩ := hrel
    have HI := hide hI
    have hbr := hI.be
    clear hI
    have HRr := hide (HR.out.below hbr)
    have d0 : wr.cell? ⟨L.p, 0, none⟩ = some (.int .i64 (R.nb : Int)) := HRr.out.cell 0
    by_cases hlt : b < R.nb
    · have d1 : wr.cell? ⟨L.p, 1, none⟩ = some (.int .i64 (R.sz : Int)) := HRr.out.cell 1
      have d2 : wr.cell? ⟨L.p, 2, none⟩ = some (.slice (some ⟨L.mb, 0, none⟩) R.nb L.mc) := HRr.out.cell 2
      have d3 : wr.cell? ⟨L.p, 3, none⟩ = some (.slice (some ⟨L.sb, 0, none⟩) R.nb L.sc) := HRr.out.cell 3
      obtain ⟨n1, -⟩ := HRr.out.medAt hlt
      obtain ⟨n2, -⟩ := HRr.out.spAt hlt
      have hmul : b * R.sz + R.sz ≤ N := by
        have : (b + 1) * R.sz ≤ R.nb * R.sz := Nat.mul_le_mul_right _ hlt
        rw [Nat.succ_mul, HNN.out] at this
        exact this
      have hsz := hbr.size
      have HD := hide (HDU.out b)
      have HPM := hide (HRr.out.pm b hlt)
      have HSU : Hid (b * R.sz + R.sz = (b + 1) * R.sz) := hide (Nat.succ_mul _ _).symm
      generalize b * R.sz = M at *
      cases hsp : R.sp b with
      | true =>
        rw [hsp] at n2 HD
        have HIM : Hid (S.img (b + 1) = S.img b ++ zeros R.sz) := hide (by show S.img b ++ S.dur b = _; rw [HD.out]; rfl)
        obtain ⟨cur, hg, hc, ht⟩ := HI.out.row
        have HNX := hide (MInv.grown (m := R.sz) hbr hg hc ht (zeros_len _) hmul HIM.out)
        have HRZ := hide (run_zapp (w := wr) 22 hg hc hmul (by omega) hsz0)
        clear hg hc ht
        go_wp2_with (at_builtin; refine Go.Lib.wpList_append_run _ rfl (.tmp 30) (.tmp 34) 22 3 rfl _ _ rfl rfl _ _ HRZ.out ?_)
        go_roundw
        case rel => exact ⟨b + 1, by omega, by go_num, by rw [← HSU.out], by rw [← HSU.out]; exact HNX.out⟩
        case measure => simp [intOf]; omega
      | false =>
        rw [hsp] at n2 HD
        have HIM : Hid (S.img (b + 1) = S.img b ++ (R.med b).l) := hide (by show S.img b ++ S.dur b = _; rw [HD.out]; rfl)
        obtain ⟨cur, hg, hc, ht⟩ := HI.out.row
        have HNX := hide (MInv.grown (m := R.sz) hbr hg hc ht HPM.out.len hmul HIM.out)
        have hnw := HPM.out.pc.bsl.news
        have hlen : ((R.med b).l.map byteV).length = R.sz * i0.size := by rw [List.length_map, HPM.out.len, hz1, Nat.mul_one]
        have hr0 := run_append_room (P := Tryz.prog) wr 22 22 5 i0 Tryz.underlying22 hi w.heap.size M N cur hg ⟨(R.med b).g, 0, none⟩ R.sz R.sz ((R.med b).l.map byteV) hlen hnw (byteV_oneCell _) hmul (by rw [hlen, hz1]; omega)
        rw [hlen, hz1, Nat.mul_one, Nat.mul_one] at hr0
        have HRZ := hide hr0
        clear hg hc ht hnw hlen hr0
        go_wp2_with (at_builtin; refine Go.Lib.wpList_append_run _ rfl (.tmp 36) (.tmp 43) 22 22 rfl _ _ rfl rfl _ _ HRZ.out ?_)
        go_roundw
        case rel => exact ⟨b + 1, by omega, by go_num, by rw [← HSU.out], by rw [← HSU.out]; exact HNX.out⟩
        case measure => simp [intOf]; omega
    · have eb : b = R.nb := by omega
      subst eb
      go_wp2
      go_ret
      obtain ⟨x1, x2⟩ := HIL.out R.nb (Nat.le_refl _)
      have h1N : 1 ≤ N := by have : 1 * 1 ≤ R.nb * R.sz := Nat.mul_le_mul hnb1 (by omega); rw [HNN.out] at this; exact this
      obtain ⟨cur, hg, hc, ht⟩ := HI.out.row
      rw [HNN.out] at ht x1
      refine ⟨.slice (some ⟨w.heap.size, 0, none⟩) N N, by rw [← HNN.out]; rfl, ⟨some ⟨w.heap.size, 0, none⟩, N, by rw [x1], by rw [x1]; exact Nat.le_refl _, by unfold maxLen; omega, by simp, x2, fun _ => ⟨w.heap.size, 0, rfl, fun i hi => ?_⟩⟩, fun g hg => ?_, hbr⟩
      · rw [cell_of_row _ _ _ _ _ _ hg, Nat.zero_add, ← Array.getElem?_toList]
        have h2 : cur.toList = (S.img R.nb).map byteV := by rw [← ht]; exact (List.take_of_length_le (by simp; omega)).symm
        rw [h2]
        exact map_byteV_getD hi
      · simp only [blockOf, Option.some.injEq] at hg
        omega
end Go.Proofs.YtlpmpicmpklaoacGreat
