import Derived.Test.YtepgiomgkgfioaaDoorShaSched
namespace Go.Proofs.YtepgiomgkgfioaaDoor
open Go.RowKit
open Num
set_option linter.unusedVariables false

/-- the words l lie in block g from its head on -/
def Tab (w : World) (g : Nat) (l : List Nat) : Prop := ∀ i, i < l.length → w.cell? ⟨g, i, none⟩ = some (.int .u32 (l.getD i 0 : Nat))
theorem Tab.below {w w' : World} {g : Nat} {l : List Nat} (h : Tab w g l) (hb : Below w.heap.size w w') : Tab w' g l := fun i hi => by
  have := h i hi
  rw [hb.cell (p := ⟨g, i, none⟩) (World.block_lt_of_cell? w _ this)]; exact this
theorem Tab.range {w : World} {g : Nat} {l : List Nat} (h : Tab w g l) : w.rangeAt g 0 (l.map wordV) := by
  intro j v hv
  have hj : j < l.length := by simpa using (List.getElem?_eq_some_iff.1 hv).1
  rw [map_wordV_getD hj] at hv
  rw [Nat.zero_add, h j hj]; exact hv

def zeroS : Array Value := ((List.replicate 8 0).map wordV).toArray
theorem Tryd.zeroS : (Tryd.prog.info? 87).map (·.zero) = some (some (.agg zeroS)) := by kernel_rfl
theorem Tryd.sizeS : (Tryd.prog.info? 87).map (·.size) = some 8 := by kernel_rfl
theorem Tryd.sizeC : (Tryd.prog.info? 89).map (·.size) = some 64 := by kernel_rfl

def Ks : List Nat := [0x428a2f98, 0x71374491, 0xb5c0fbcf, 0xe9b5dba5, 0x3956c25b, 0x59f111f1, 0x923f82a4, 0xab1c5ed5, 0xd807aa98, 0x12835b01, 0x243185be, 0x550c7dc3, 0x72be5d74, 0x80deb1fe, 0x9bdc06a7, 0xc19bf174,
  0xe49b69c1, 0xefbe4786, 0x0fc19dc6, 0x240ca1cc, 0x2de92c6f, 0x4a7484aa, 0x5cb0a9dc, 0x76f988da, 0x983e5152, 0xa831c66d, 0xb00327c8, 0xbf597fc7, 0xc6e00bf3, 0xd5a79147, 0x06ca6351, 0x14292967,
  0x27b70a85, 0x2e1b2138, 0x4d2c6dfc, 0x53380d13, 0x650a7354, 0x766a0abb, 0x81c2c92e, 0x92722c85, 0xa2bfe8a1, 0xa81a664b, 0xc24b8b70, 0xc76c51a3, 0xd192e819, 0xd6990624, 0xf40e3585, 0x106aa070,
  0x19a4c116, 0x1e376c08, 0x2748774c, 0x34b0bcb5, 0x391c0cb3, 0x4ed8aa4a, 0x5b9cca4f, 0x682e6ff3, 0x748f82ee, 0x78a5636f, 0x84c87814, 0x8cc70208, 0x90befffa, 0xa4506ceb, 0xbef9a3f7, 0xc67178f2]
theorem Ks_len : Ks.length = 64 := by rfl
theorem Ks_lt : ∀ i, i < 64 → Ks.getD i 0 < 4294967296 := by decide +kernel

/-- the round, its sums taken apart -/
theorem rnd_eq (s : St) (k x S1 C S0 M p1 p2 p3 p4 q1 A E : Nat) (h1 : bSig1 s.e = S1) (h2 : chs s.e s.f s.g = C) (h3 : bSig0 s.a = S0) (h4 : maj s.a s.b s.c = M)
    (e1 : (s.h + S1) % 4294967296 = p1) (e2 : (p1 + C) % 4294967296 = p2) (e3 : (p2 + k) % 4294967296 = p3) (e4 : (p3 + x) % 4294967296 = p4) (e5 : (S0 + M) % 4294967296 = q1)
    (e6 : (p4 + q1) % 4294967296 = A) (e7 : (s.d + p4) % 4294967296 = E) : rnd s k x = ⟨A, s.a, s.b, s.c, E, s.e, s.f, s.g⟩ := by
  have t1 : tOne s k x = p4 := by rw [tOne, h1, h2]; omega
  have t2 : tTwo s = q1 := by rw [tTwo, h3, h4, e5]
  rw [rnd, t1, t2, e6, e7]

set_option maxRecDepth 100000 in
set_option maxHeartbeats 8000000 in
theorem mix_any (st : St) (hst : st.ok) (c : List Nat) (hl : c.length = 64) (hb : ∀ b ∈ c, b < 256) (w : World) (hK : Tab w 1 Ks) :
    Calls Tryd.prog 38 #[.agg (st.list.map wordV).toArray, .agg (c.map byteV).toArray] w fun e w' => e = .returned (.agg ((mixS Ks st c).list.map wordV).toArray) ∧ Below w.heap.size w w' := by
  have HS := hide (fun wx => sched_any c hl hb wx)
  have HC : Hid ((Tryd.prog.info? 89).map (·.size) = some (c.map byteV).toArray.size) := by show _ = _; rw [List.size_toArray, List.length_map, hl]; exact Tryd.sizeC
  have hsl := sched_len c 64
  have hslt := sched_lt hb 64
  have hws : Hid (((sched c 64).map wordV).toArray.size = 64) := by show _ = _; simp [hsl]
  have hone := hide (wordV_one (sched c 64))
  have HM : Hid (∀ v : St, rounds Ks (sched c 64) st 64 = v → mixS Ks st c = st.add v) := fun v hv => by rw [mixS, hv]
  generalize (c.map byteV).toArray = cs at *
  have hwc : ∀ i, i < 64 → ((sched c 64).map wordV).toArray[i]? = some (.int .u32 ((sched c 64).getD i 0 : Nat)) := by
    intro i hi; rw [List.getElem?_toArray, map_wordV_getD (by omega)]
  have hwl : ∀ i, i < 64 → (sched c 64).getD i 0 < 4294967296 := fun i hi => hslt _ (mem_getD (by omega))
  generalize sched c 64 = ws at *
  generalize (ws.map wordV).toArray = wa at *
  have HWC := hide hwc
  have HWL := hide hwl
  have HKT := hide hK
  clear hwc hwl hK hsl hslt hl hb
  obtain ⟨sa, sb, sc, sd, se, sf, sg, sh⟩ := st
  obtain ⟨ha, hb, hc, hd, he, hf, hg, hh⟩ := hst
  simp only [St.list, List.map_cons, List.map_nil, wordV] at *
  have hB : Hid (Below w.heap.size w (((w.alloc (.cells #[.int .u32 (sa : Int), .int .u32 (sb : Int), .int .u32 (sc : Int), .int .u32 (sd : Int), .int .u32 (se : Int), .int .u32 (sf : Int), .int .u32 (sg : Int), .int .u32 (sh : Int)] 87)).alloc (.cells cs 89)).alloc (.cells zeroS 87))) := below_alloc3 _ _ _ _
  go_enter Tryd.func38, Tryd.ntmps38
  go_wp2_with (first
    | refine wpList_alloc_as rfl 87 rfl (.agg zeroS) zeroS Tryd.zeroS rfl ?_
    | refine wpList_load_row rfl 89 (.tmp 3) rfl (w.heap.size + 1) rfl 89 cs (0, 0) _ (heap_more _ (heap_alloc2_new w _ _)) Tryd.underlying89 rfl HC.out ?_)
  refine (HS.out _).mono ?_
  rintro e w1 ⟨rfl, hb1⟩
  go_wp2_with (first
    | refine wpList_alloc_as rfl 102 rfl (.agg zeroW) zeroW Tryd.zeroW rfl ?_
    | (refine wpList_store_row rfl 102 _ _ rfl w1.heap.size wa rfl rfl 102 zeroW (Go.heap_alloc_new w1 _) (by rw [hws.out]; exact Tryd.sizeW) (by rw [hws.out]; rfl) hone.out ?_; rw [World.setRow_alloc_new]))
  have hr0 := heap_more (.cells wa 102) (heap_kept hb1 (heap_more _ (heap_more _ (Go.heap_alloc_new w (.cells #[.int .u32 (sa : Int), .int .u32 (sb : Int), .int .u32 (sc : Int), .int .u32 (sd : Int), .int .u32 (se : Int), .int .u32 (sf : Int), .int .u32 (sg : Int), .int .u32 (sh : Int)] 87)))))
  have hr2 := heap_more (.cells wa 102) (heap_kept hb1 (heap3_new w (.cells #[.int .u32 (sa : Int), .int .u32 (sb : Int), .int .u32 (sc : Int), .int .u32 (sd : Int), .int .u32 (se : Int), .int .u32 (sf : Int), .int .u32 (sg : Int), .int .u32 (sh : Int)] 87) (.cells cs 89) (.cells zeroS 87)))
  have hrw := Go.heap_alloc_new w1 (.cells wa 102)
  have hbw := (hB.out.trans (hb1.mono (by simp; omega)))
  have hsz := hbw.size
  have hbW := hbw.alloc hsz (.cells wa 102)
  have hKW := HKT.out.below hbW
  generalize hgw : w1.heap.size = gw at *
  have hgw2 : w.heap.size ≤ gw := hsz
  generalize w1.alloc (.cells wa 102) = W at *
  clear hgw hB hb1 hbw HKT HS
  have HR0 := hide hr0
  have HR2 := hide hr2
  have HRW := hide hrw
  have HBW := hide hbW
  have HKW := hide hKW
  have s0 : W.cell? ⟨w.heap.size, 0, none⟩ = some (.int .u32 (sa : Int)) := by rw [cell_of_row _ _ _ _ _ _ hr0]; rfl
  have s1 : W.cell? ⟨w.heap.size, 1, none⟩ = some (.int .u32 (sb : Int)) := by rw [cell_of_row _ _ _ _ _ _ hr0]; rfl
  have s2 : W.cell? ⟨w.heap.size, 2, none⟩ = some (.int .u32 (sc : Int)) := by rw [cell_of_row _ _ _ _ _ _ hr0]; rfl
  have s3 : W.cell? ⟨w.heap.size, 3, none⟩ = some (.int .u32 (sd : Int)) := by rw [cell_of_row _ _ _ _ _ _ hr0]; rfl
  have s4 : W.cell? ⟨w.heap.size, 4, none⟩ = some (.int .u32 (se : Int)) := by rw [cell_of_row _ _ _ _ _ _ hr0]; rfl
  have s5 : W.cell? ⟨w.heap.size, 5, none⟩ = some (.int .u32 (sf : Int)) := by rw [cell_of_row _ _ _ _ _ _ hr0]; rfl
  have s6 : W.cell? ⟨w.heap.size, 6, none⟩ = some (.int .u32 (sg : Int)) := by rw [cell_of_row _ _ _ _ _ _ hr0]; rfl
  have s7 : W.cell? ⟨w.heap.size, 7, none⟩ = some (.int .u32 (sh : Int)) := by rw [cell_of_row _ _ _ _ _ _ hr0]; rfl
  clear hr0 hr2 hrw hbW hKW
  go_quiet (fail)
  go_wp2
  go_quiet (fail)
  go_wp2
  go_loopw [6, 7, 8, 9, 10, 11, 12, 13, 35] (fun a b c d e f g h i wr => ∃ k : Nat, k ≤ 64 ∧ i = .int .i64 k ∧ (∃ v : St, v.ok ∧ rounds Ks ws ⟨sa, sb, sc, sd, se, sf, sg, sh⟩ k = v ∧ a = .int .u32 (v.a : Int) ∧ b = .int .u32 (v.b : Int) ∧ c = .int .u32 (v.c : Int) ∧ d = .int .u32 (v.d : Int) ∧ e = .int .u32 (v.e : Int) ∧ f = .int .u32 (v.f : Int) ∧ g = .int .u32 (v.g : Int) ∧ h = .int .u32 (v.h : Int)) ∧ ∃ n, wr = W.drewN n)
    (fun _ _ _ _ _ _ _ _ i _ => 64 - (intOf i).toNat)
  case atStart => exact ⟨0, Nat.zero_le _, rfl, ⟨_, ⟨ha, hb, hc, hd, he, hf, hg, hh⟩, rfl, rfl, rfl, rfl, rfl, rfl, rfl, rfl, rfl⟩, _, by rw [World.drewN_drewN]⟩
  case round =>
    obtain ⟨k, hk, rfl, ⟨v, hv, hr, rfl, rfl, rfl, rfl, rfl, rfl, rfl, rfl⟩, n, hwr⟩ := hrel
    have HWR := hide hwr
    have hcw : ∀ x, wr.cell? x = W.cell? x := by intro x; rw [hwr]; rfl
    clear hwr
    by_cases hlt : k < 64
    · obtain ⟨va, vb, vc, vd, ve, vf, vg, vh⟩ := v
      obtain ⟨hva, hvb, hvc, hvd, hve, hvf, hvg, hvh⟩ := hv
      simp only at *
      have ck : wr.cell? ⟨1, k, none⟩ = some (.int .u32 (Ks.getD k 0 : Nat)) := by rw [hcw]; exact HKW.out k (by rw [Ks_len]; exact hlt)
      have cw : wr.cell? ⟨gw, k, none⟩ = some (.int .u32 (ws.getD k 0 : Nat)) := by rw [hcw, cell_of_row _ _ k wa 102 (0, 0) HRW.out]; exact HWC.out k hlt
      have lk := Ks_lt k hlt
      have lw := HWL.out k hlt
      have HRN : Hid (rounds Ks ws ⟨sa, sb, sc, sd, se, sf, sg, sh⟩ (k + 1) = rnd ⟨va, vb, vc, vd, ve, vf, vg, vh⟩ (Ks.getD k 0) (ws.getD k 0)) := by show rnd _ _ _ = _; rw [hr]
      have HOK : Hid ((rnd ⟨va, vb, vc, vd, ve, vf, vg, vh⟩ (Ks.getD k 0) (ws.getD k 0)).ok) := rnd_ok ⟨hva, hvb, hvc, hvd, hve, hvf, hvg, hvh⟩ _ _
      generalize Ks.getD k 0 = kt at *
      generalize ws.getD k 0 = wt at *
      have HB1 := hide (fun wx => bSig1_any ve hve wx)
      have HCH := hide (fun wx => chs_any ve vf vg hve hvf hvg wx)
      have HB0 := hide (fun wx => bSig0_any va hva wx)
      have HMJ := hide (fun wx => maj_any va vb vc hva hvb hvc wx)
      obtain ⟨S1, eS1⟩ : ∃ z, bSig1 ve = z := ⟨_, rfl⟩
      obtain ⟨C, eC⟩ : ∃ z, chs ve vf vg = z := ⟨_, rfl⟩
      obtain ⟨S0, eS0⟩ : ∃ z, bSig0 va = z := ⟨_, rfl⟩
      obtain ⟨M, eM⟩ : ∃ z, maj va vb vc = z := ⟨_, rfl⟩
      rw [eS1] at HB1
      rw [eC] at HCH
      rw [eS0] at HB0
      rw [eM] at HMJ
      obtain ⟨p1, ep1⟩ : ∃ z, (vh + S1) % 4294967296 = z := ⟨_, rfl⟩
      obtain ⟨p2, ep2⟩ : ∃ z, (p1 + C) % 4294967296 = z := ⟨_, rfl⟩
      obtain ⟨p3, ep3⟩ : ∃ z, (p2 + kt) % 4294967296 = z := ⟨_, rfl⟩
      obtain ⟨p4, ep4⟩ : ∃ z, (p3 + wt) % 4294967296 = z := ⟨_, rfl⟩
      obtain ⟨q1, eq1⟩ : ∃ z, (S0 + M) % 4294967296 = z := ⟨_, rfl⟩
      obtain ⟨A, eA⟩ : ∃ z, (p4 + q1) % 4294967296 = z := ⟨_, rfl⟩
      obtain ⟨E, eE⟩ : ∃ z, (vd + p4) % 4294967296 = z := ⟨_, rfl⟩
      have HQ := hide (rnd_eq ⟨va, vb, vc, vd, ve, vf, vg, vh⟩ kt wt S1 C S0 M p1 p2 p3 p4 q1 A E eS1 eC eS0 eM ep1 ep2 ep3 ep4 eq1 eA eE)
      rw [HQ.out] at HRN HOK
      have f1 : ((vh : Int) + (S1 : Int)) % 4294967296 = (p1 : Int) := by omega
      have f2 : ((p1 : Int) + (C : Int)) % 4294967296 = (p2 : Int) := by omega
      have f3 : ((p2 : Int) + (kt : Int)) % 4294967296 = (p3 : Int) := by omega
      have f4 : ((p3 : Int) + (wt : Int)) % 4294967296 = (p4 : Int) := by omega
      have f5 : ((S0 : Int) + (M : Int)) % 4294967296 = (q1 : Int) := by omega
      have f6 : ((p4 : Int) + (q1 : Int)) % 4294967296 = (A : Int) := by omega
      have f7 : ((vd : Int) + (p4 : Int)) % 4294967296 = (E : Int) := by omega
      have lk2 : (k : Int) < 64 := by omega
      clear hcw eS1 eC eS0 eM ep1 ep2 ep3 ep4 eq1 eA eE HQ hva hvb hvc hvd hve hvf hvg hvh lk lw s0 s1 s2 s3 s4 s5 s6 s7 hr
      go_wp2
      go_quiet (first | (go_at_call 47; exact Calls.quiet_of_same (HB1.out _)) | (go_at_call 48; exact Calls.quiet_of_same (HCH.out _)))
      go_wp2_with (first
        | (go_at_call 49; refine (HB0.out _).mono ?_; rintro e w' ⟨rfl, rfl⟩)
        | (go_at_call 50; refine (HMJ.out _).mono ?_; rintro e w' ⟨rfl, rfl⟩))
      go_roundw
      case rel => exact ⟨k + 1, by omega, by go_num, ⟨_, HOK.out, HRN.out, by first | rfl | rw [f6], rfl, rfl, rfl, by first | rfl | rw [f7], rfl, rfl, rfl⟩, _, by rw [HWR.out, World.drewN_drewN]⟩
      case measure => simp [intOf]; omega
    · have hk64 : k = 64 := by omega
      subst hk64
      have HMX := hide (HM.out v hr)
      obtain ⟨va, vb, vc, vd, ve, vf, vg, vh⟩ := v
      obtain ⟨hva, hvb, hvc, hvd, hve, hvf, hvg, hvh⟩ := hv
      simp only at *
      have t0 : wr.cell? ⟨w.heap.size, 0, none⟩ = some (.int .u32 (sa : Int)) := by rw [hcw]; exact s0
      have t1 : wr.cell? ⟨w.heap.size, 1, none⟩ = some (.int .u32 (sb : Int)) := by rw [hcw]; exact s1
      have t2 : wr.cell? ⟨w.heap.size, 2, none⟩ = some (.int .u32 (sc : Int)) := by rw [hcw]; exact s2
      have t3 : wr.cell? ⟨w.heap.size, 3, none⟩ = some (.int .u32 (sd : Int)) := by rw [hcw]; exact s3
      have t4 : wr.cell? ⟨w.heap.size, 4, none⟩ = some (.int .u32 (se : Int)) := by rw [hcw]; exact s4
      have t5 : wr.cell? ⟨w.heap.size, 5, none⟩ = some (.int .u32 (sf : Int)) := by rw [hcw]; exact s5
      have t6 : wr.cell? ⟨w.heap.size, 6, none⟩ = some (.int .u32 (sg : Int)) := by rw [hcw]; exact s6
      have t7 : wr.cell? ⟨w.heap.size, 7, none⟩ = some (.int .u32 (sh : Int)) := by rw [hcw]; exact s7
      have g0 : (((sa + va) % 4294967296 : Nat) : Int) = ((sa : Int) + (va : Int)) % 4294967296 := by omega
      have g1 : (((sb + vb) % 4294967296 : Nat) : Int) = ((sb : Int) + (vb : Int)) % 4294967296 := by omega
      have g2 : (((sc + vc) % 4294967296 : Nat) : Int) = ((sc : Int) + (vc : Int)) % 4294967296 := by omega
      have g3 : (((sd + vd) % 4294967296 : Nat) : Int) = ((sd : Int) + (vd : Int)) % 4294967296 := by omega
      have g4 : (((se + ve) % 4294967296 : Nat) : Int) = ((se : Int) + (ve : Int)) % 4294967296 := by omega
      have g5 : (((sf + vf) % 4294967296 : Nat) : Int) = ((sf : Int) + (vf : Int)) % 4294967296 := by omega
      have g6 : (((sg + vg) % 4294967296 : Nat) : Int) = ((sg : Int) + (vg : Int)) % 4294967296 := by omega
      have g7 : (((sh + vh) % 4294967296 : Nat) : Int) = ((sh : Int) + (vh : Int)) % 4294967296 := by omega
      have HMY : Hid (Ending.returned (.agg #[.int .u32 (((sa : Int) + (va : Int)) % 4294967296), .int .u32 (((sb : Int) + (vb : Int)) % 4294967296), .int .u32 (((sc : Int) + (vc : Int)) % 4294967296), .int .u32 (((sd : Int) + (vd : Int)) % 4294967296), .int .u32 (((se : Int) + (ve : Int)) % 4294967296), .int .u32 (((sf : Int) + (vf : Int)) % 4294967296), .int .u32 (((sg : Int) + (vg : Int)) % 4294967296), .int .u32 (((sh : Int) + (vh : Int)) % 4294967296)]) = .returned (.agg ((mixS Ks ⟨sa, sb, sc, sd, se, sf, sg, sh⟩ c).list.map wordV).toArray)) := by
        show _ = _; rw [HMX.out]; simp only [St.add, St.list, List.map_cons, List.map_nil, wordV, g0, g1, g2, g3, g4, g5, g6, g7]
      clear g0 g1 g2 g3 g4 g5 g6 g7
      have HRR : Hid (wr.heap[w.heap.size + 1 + 1]? = some (.cells zeroS 87 (0, 0))) := by show _ = _; rw [HWR.out]; exact HR2.out
      have HRB : Hid (Below w.heap.size w wr) := by rw [HWR.out]; exact below_drewN HBW.out n
      have HRS := hide (setRow_heap wr (w.heap.size + 1 + 1) zeroS #[.int .u32 (((sa : Int) + (va : Int)) % 4294967296), .int .u32 (((sb : Int) + (vb : Int)) % 4294967296), .int .u32 (((sc : Int) + (vc : Int)) % 4294967296), .int .u32 (((sd : Int) + (vd : Int)) % 4294967296), .int .u32 (((se : Int) + (ve : Int)) % 4294967296), .int .u32 (((sf : Int) + (vf : Int)) % 4294967296), .int .u32 (((sg : Int) + (vg : Int)) % 4294967296), .int .u32 (((sh : Int) + (vh : Int)) % 4294967296)] 87 (0, 0) HRR.out)
      clear hcw s0 s1 s2 s3 s4 s5 s6 s7 hr HM HWR HR0 HR2 HRW HBW HKW HMX
      go_wp2_with (refine wpList_store_row rfl 87 _ _ rfl (w.heap.size + 1 + 1) #[.int .u32 (((sa : Int) + (va : Int)) % 4294967296), .int .u32 (((sb : Int) + (vb : Int)) % 4294967296), .int .u32 (((sc : Int) + (vc : Int)) % 4294967296), .int .u32 (((sd : Int) + (vd : Int)) % 4294967296), .int .u32 (((se : Int) + (ve : Int)) % 4294967296), .int .u32 (((sf : Int) + (vf : Int)) % 4294967296), .int .u32 (((sg : Int) + (vg : Int)) % 4294967296), .int .u32 (((sh : Int) + (vh : Int)) % 4294967296)] rfl rfl 87 zeroS HRR.out Tryd.sizeS rfl (by simp [Value.oneCell']) ?_)
      exact bodyPost_ret (v := .agg #[.int .u32 (((sa : Int) + (va : Int)) % 4294967296), .int .u32 (((sb : Int) + (vb : Int)) % 4294967296), .int .u32 (((sc : Int) + (vc : Int)) % 4294967296), .int .u32 (((sd : Int) + (vd : Int)) % 4294967296), .int .u32 (((se : Int) + (ve : Int)) % 4294967296), .int .u32 (((sf : Int) + (vf : Int)) % 4294967296), .int .u32 (((sg : Int) + (vg : Int)) % 4294967296), .int .u32 (((sh : Int) + (vh : Int)) % 4294967296)]) (results_cell_row rfl _ _ (w.heap.size + 1 + 1) 87 _ (0, 0) _ rfl HRS.out Tryd.underlying87 rfl Tryd.sizeS) rfl ⟨HMY.out, below_setRow HRB.out (by omega) _⟩
end Go.Proofs.YtepgiomgkgfioaaDoor
