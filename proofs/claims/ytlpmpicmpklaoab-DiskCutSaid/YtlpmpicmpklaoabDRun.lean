import Derived.Test.YtlpmpicmpklaoabDRunM
namespace Go.Proofs.Ytlpmpicmpklaoab
open Go.RowKit Go.Maps
set_option linter.unusedVariables false
set_option linter.unusedSimpArgs false
set_option maxRecDepth 20000

def RunV.val (r : RunV) : Value := .agg #[.int .i64 r.kind, .int .i64 r.put.block, r.put.tv, .bool r.put.past, .int .i64 r.len]
structure RunV.ok (w : World) (r : RunV) : Prop where
  kd : i64ok r.kind
  bl : i64ok r.put.block
  ln : i64ok r.len
  bs : BSl w r.put.tv r.put.tl
/-- a list of runs, in memory -/
def RSl (w : World) (v : Value) (rs : List RunV) : Prop :=
  ∃ a cap, v = .slice a rs.length cap ∧ rs.length ≤ cap ∧ cap ≤ maxLen ∧ (∀ r ∈ rs, r.ok w) ∧
    (0 < rs.length → ∃ b off, a = some ⟨b, off, none⟩ ∧ ∀ i (h : i < rs.length), w.cell? ⟨b, off + i * 5, none⟩ = some (.int .i64 rs[i].kind) ∧ w.cell? ⟨b, off + i * 5 + 1, none⟩ = some (.int .i64 rs[i].put.block) ∧ w.cell? ⟨b, off + i * 5 + 2, none⟩ = some rs[i].put.tv ∧ w.cell? ⟨b, off + i * 5 + 3, none⟩ = some (.bool rs[i].put.past) ∧ w.cell? ⟨b, off + i * 5 + 4, none⟩ = some (.int .i64 rs[i].len))

/-- an error and its number -/
def TrIs (w : World) (u : Value) (n : Int) : Prop := (u = .nilIface ∧ n = 0) ∨ (∃ g b, u = errV g ∧ w.heap[g]? = some (berr b n)) ∨ u = .iface 46 (.int .i64 n)
theorem ErrIs.tr {w w' : World} {U : Nat → Prop} {v : Value} {b n : Int} (h : ErrIs w w' U v b n) : TrIs w' v n := by
  rcases h with ⟨e1, e2⟩ | ⟨_, g, e, _, h, _⟩
  · exact .inl ⟨e2, e1⟩
  · exact .inr (.inl ⟨g, b, e, h⟩)
theorem assertErrno (v : Value) (xT : TypeId) (w : World) : (Instr.typeAssert (.iface 46 v) xT 46 true).run Try.prog w = .ok (.tuple #[v, .bool true]) w := by kernel_rfl
theorem assertNoPbe (v : Value) (xT : TypeId) (w : World) : (Instr.typeAssert (.iface 46 v) xT 82 true).run Try.prog w = .ok (.tuple #[.pointer none, .bool false]) w := by kernel_rfl
theorem trouble_no (w : World) (n : Int) (hn : -9223372036854775808 ≤ n ∧ n ≤ 9223372036854775807) :
    Calls Try.prog 24 #[.iface 46 (.int .i64 n)] w fun e w' => (∃ x : Int, e = .returned (.tuple #[.int .i64 n, .int .i64 x])) ∧ ∃ k, w' = w.drewN k := by
  obtain ⟨h1, h2⟩ := hn
  have q := ifaceEq
  have qa := assertErrno
  have qb := assertNoPbe
  go_enter Try.func24, Try.ntmps24
  go_wp2
  go_ret2
  exact ⟨⟨_, rfl⟩, 0, rfl⟩
theorem trouble_tr {w : World} {u : Value} {n : Int} (h : TrIs w u n) (hn : -9223372036854775808 ≤ n ∧ n ≤ 9223372036854775807) :
    Calls Try.prog 24 #[u] w fun e w' => (∃ x : Int, e = .returned (.tuple #[.int .i64 n, .int .i64 x])) ∧ ∃ k, w' = w.drewN k := by
  rcases h with ⟨rfl, rfl⟩ | ⟨g, b, rfl, hg⟩ | rfl
  · exact (trouble_nil w).mono fun e w' h => ⟨⟨_, h.1⟩, 0, h.2⟩
  · exact (trouble_err w g b n hg).mono fun e w' h => ⟨⟨_, h.1⟩, h.2⟩
  · exact trouble_no w n hn

theorem zeros_run (w : World) (r : RunV) (nb : Nat) (h1 : 1 ≤ nb) (h2 : nb ≤ 8192) (hp : i64ok r.put.block) (hl : i64ok r.len) :
    Calls Try.prog 17 #[r.val, .int .i64 (nb : Int)] w fun e w' => e = .returned (.int .i64 (r.zs nb : Nat)) ∧ Below w.heap.size w w' := by
  have HB := hide fun wr => block_any wr r.put nb h1 h2 hp
  unfold PutV.val at HB
  have hat := r.put.at_lt h1
  obtain ⟨i1, i2⟩ := hl
  unfold RunV.val RunV.zs
  generalize r.put.at_ nb = a at *
  generalize r.len = len at *
  generalize r.kind = kind at *
  generalize r.put.block = bl at *
  generalize r.put.tv = tv at *
  generalize r.put.past = pa at *
  clear hp
  have HK : Hid (∀ w2, Below (w.alloc (.cells #[.int .i64 kind, .int .i64 bl, tv, .bool pa, .int .i64 len] 32)).heap.size (w.alloc (.cells #[.int .i64 kind, .int .i64 bl, tv, .bool pa, .int .i64 len] 32)) w2 → w2.cell? ⟨w.heap.size, 4, none⟩ = some (.int .i64 len) ∧ Below w.heap.size w w2) := hide fun w2 hb2 => by
    refine ⟨?_, ?_⟩
    · rw [cell_of_row _ _ _ _ _ _ ((hb2.block _ (by simp)).trans (Go.heap_alloc_new w _))]; rfl
    · exact ((Below.refl w.heap.size w).alloc (Nat.le_refl _) _).trans (hb2.mono (by simp))
  by_cases g1 : len < 0
  · have e : min len.toNat (nb - a) = 0 := by omega
    rw [e]
    go_enter Try.func17, Try.ntmps17
    go_wp2_with (go_at_call 18; refine (HB.out _).mono ?_; rintro e w2 ⟨rfl, hb2⟩; obtain ⟨k4, hb⟩ := HK.out _ hb2)
    go_ret
    exact ⟨rfl, hb⟩
  · obtain ⟨z, rfl⟩ : ∃ z : Nat, len = (z : Int) := ⟨len.toNat, by omega⟩
    rw [Int.toNat_natCast]
    by_cases g2 : (nb : Int) - (a : Int) < (z : Int)
    · have e : ((min z (nb - a) : Nat) : Int) = (nb : Int) - (a : Int) := by omega
      rw [e]
      go_enter Try.func17, Try.ntmps17
      go_wp2_with (go_at_call 18; refine (HB.out _).mono ?_; rintro e w2 ⟨rfl, hb2⟩; obtain ⟨k4, hb⟩ := HK.out _ hb2)
      go_ret
      exact ⟨rfl, hb⟩
    · have e : min z (nb - a) = z := by omega
      rw [e]
      go_enter Try.func17, Try.ntmps17
      go_wp2_with (go_at_call 18; refine (HB.out _).mono ?_; rintro e w2 ⟨rfl, hb2⟩; obtain ⟨k4, hb⟩ := HK.out _ hb2)
      go_ret
      exact ⟨rfl, hb⟩
theorem steps_run (w : World) (r : RunV) (nb : Nat) (h1 : 1 ≤ nb) (h2 : nb ≤ 8192) (hk : i64ok r.kind) (hp : i64ok r.put.block) (hl : i64ok r.len) :
    Calls Try.prog 7 #[r.val, .int .i64 (nb : Int)] w fun e w' => e = .returned (.int .i64 (r.steps nb : Nat)) ∧ Below w.heap.size w w' := by
  have HZ := hide fun wr => zeros_run wr r nb h1 h2 hp hl
  have HB : Hid (∀ w2, Below (w.alloc (.cells #[.int .i64 r.kind, .int .i64 r.put.block, r.put.tv, .bool r.put.past, .int .i64 r.len] 32)).heap.size (w.alloc (.cells #[.int .i64 r.kind, .int .i64 r.put.block, r.put.tv, .bool r.put.past, .int .i64 r.len] 32)) w2 → Below w.heap.size w w2) := hide fun w2 hb2 => ((Below.refl w.heap.size w).alloc (Nat.le_refl _) _).trans (hb2.mono (by simp))
  unfold RunV.steps
  unfold RunV.val at *
  generalize r.zs nb = z at *
  obtain ⟨i1, i2⟩ := hk
  clear hp hl
  by_cases hk1 : r.kind = 1
  · rw [if_pos hk1]
    generalize r.kind = kind at *
    subst hk1
    generalize r.len = len at *
    generalize r.put.block = bl at *
    generalize r.put.tv = tv at *
    generalize r.put.past = pa at *
    go_enter Try.func7, Try.ntmps7
    go_wp2_with (go_at_call 17; refine (HZ.out _).mono ?_; rintro e w2 ⟨rfl, hb2⟩)
    go_ret
    exact ⟨rfl, HB.out _ hb2⟩
  · rw [if_neg hk1]
    generalize r.kind = kind at *
    generalize r.len = len at *
    generalize r.put.block = bl at *
    generalize r.put.tv = tv at *
    generalize r.put.past = pa at *
    go_enter Try.func7, Try.ntmps7
    go_wp2
    go_ret
    exact ⟨rfl, HB.out _ (Below.refl _ _)⟩

structure RunAt (w w2 : World) (L : Lay) (S : St) (r : RunV) : Prop where
  c0 : w2.cell? ⟨w.heap.size, 0, none⟩ = some (.int .i64 r.kind)
  c1 : w2.cell? ⟨w.heap.size, 1, none⟩ = some (.int .i64 r.put.block)
  c2 : w2.cell? ⟨w.heap.size, 2, none⟩ = some r.put.tv
  c3 : w2.cell? ⟨w.heap.size, 3, none⟩ = some (.bool r.put.past)
  c4 : w2.cell? ⟨w.heap.size, 4, none⟩ = some (.int .i64 r.len)
  rep : Rep w2 L S
  gr : Grow w w2 L.U L.U
  bs : BSl w2 r.put.tv r.put.tl
theorem RunAt.start {w : World} {L : Lay} {S : St} (hR : Rep w L S) {r : RunV} (hok : r.ok w) : RunAt w (w.alloc (.cells #[.int .i64 r.kind, .int .i64 r.put.block, r.put.tv, .bool r.put.past, .int .i64 r.len] 32)) L S r := by
  have hb := (Below.refl w.heap.size w).alloc (Nat.le_refl _) (.cells #[.int .i64 r.kind, .int .i64 r.put.block, r.put.tv, .bool r.put.past, .int .i64 r.len] 32)
  have hh := Go.heap_alloc_new w (.cells #[.int .i64 r.kind, .int .i64 r.put.block, r.put.tv, .bool r.put.past, .int .i64 r.len] 32)
  exact ⟨by rw [cell_of_row _ _ _ _ _ _ hh]; rfl, by rw [cell_of_row _ _ _ _ _ _ hh]; rfl, by rw [cell_of_row _ _ _ _ _ _ hh]; rfl, by rw [cell_of_row _ _ _ _ _ _ hh]; rfl, by rw [cell_of_row _ _ _ _ _ _ hh]; rfl, hR.below hb, Grow.ofBelow _ hb, hok.bs.below hb⟩
theorem RunAt.on {w w2 w3 : World} {L : Lay} {S : St} {r : RunV} (h : RunAt w w2 L S r) (hb : Below w2.heap.size w2 w3) : RunAt w w3 L S r :=
  ⟨by rw [hb.cell (World.block_lt_of_cell? _ _ h.c0)]; exact h.c0, by rw [hb.cell (World.block_lt_of_cell? _ _ h.c1)]; exact h.c1, by rw [hb.cell (World.block_lt_of_cell? _ _ h.c2)]; exact h.c2, by rw [hb.cell (World.block_lt_of_cell? _ _ h.c3)]; exact h.c3, by rw [hb.cell (World.block_lt_of_cell? _ _ h.c4)]; exact h.c4, h.rep.below hb, h.gr.trans (Grow.ofBelow _ hb), h.bs.below hb⟩

theorem zeroN_err : ∀ (n : Nat) (S : St) (f : Nat), (S.zeroN f n).2.1 = 0 ∨ (S.zeroN f n).2.1 = 22
  | 0, S, f => .inl rfl
  | n + 1, S, f => by
    unfold St.zeroN
    split
    · exact zeroN_err n _ _
    · exact .inr rfl
theorem zero_err_le (S : St) (f c : Int) : -9223372036854775808 ≤ (S.zero f c).2.1 ∧ (S.zero f c).2.1 ≤ 9223372036854775807 := by
  unfold St.zero
  split
  · rcases zeroN_err c.toNat S f.toNat with e | e <;> rw [e] <;> omega
  · show -9223372036854775808 ≤ S.zeroBad f c ∧ S.zeroBad f c ≤ 9223372036854775807
    unfold St.zeroBad
    split
    · omega
    · split
      · omega
      · split <;> omega
theorem putErr_le (S : St) (b : Int) (n : Nat) : -9223372036854775808 ≤ S.putErr b n ∧ S.putErr b n ≤ 9223372036854775807 := by
  unfold St.putErr
  split
  · omega
  · split
    · omega
    · split <;> omega

def RunPost (w : World) (L : Lay) (S' : St) (n : Int) (e : Ending) (w' : World) : Prop := e = .returned (.int .i64 n) ∧ ∃ U', Rep w' { L with U := U' } S' ∧ Grow w w' L.U U'

set_option maxHeartbeats 1000000 in
theorem run_any {w : World} {L : Lay} {S : St} (hR : Rep w L S) (r : RunV) (hok : r.ok w) (most : Nat) (hm : (most : Int) ≤ 9223372036854775807) (hb : ∀ k, (S.cache k).length + 1 ≤ 9382499223500) :
    Calls Try.prog 8 #[r.val, PD L, .int .i64 (S.nb : Int), .int .i64 (S.sz : Int), .int .i64 (most : Int)] w fun e w' => RunPost w L (S.runSt r most) (S.runErr r most) e w' := by
  obtain ⟨hnb1, hnb2⟩ := hR.nb
  have HSZ := hide hR.szs
  have HBL := hide fun wr => block_any wr r.put S.nb hnb1 hnb2 hok.bl
  have HZS := hide fun wr => zeros_run wr r S.nb hnb1 hnb2 hok.bl hok.ln
  have HBY := hide fun wr (h : BSl wr r.put.tv r.put.tl) => bytes_any wr r.put S.sz HSZ.out h
  have HX := hide (RunAt.start hR hok)
  have HCB := hide hb
  have hat := r.put.at_lt hnb1
  have HZL := hide (zs_le r hnb1)
  obtain ⟨i1, i2⟩ := hok.kd
  have x0 := HX.out.c0
  have x1 := HX.out.c1
  have x2 := HX.out.c2
  have x3 := HX.out.c3
  clear hb hok hR
  unfold PutV.val at HBL HBY
  unfold RunV.val at HZS
  unfold RunV.val
  unfold PD
  by_cases h1 : r.kind = 1
  · have hzl := HZL.out
    have e1 : S.runSt r most = (S.zero (r.put.at_ S.nb : Int) (min (r.zs S.nb) most : Nat)).1 := by rw [St.runSt, if_pos h1]
    have e2 : S.runErr r most = (S.zero (r.put.at_ S.nb : Int) (min (r.zs S.nb) most : Nat)).2.1 := by rw [St.runErr, if_pos h1]
    rw [e1, e2]
    clear e1 e2
    by_cases h2 : r.zs S.nb ≤ most
    · rw [Nat.min_eq_left h2]
      have HZE := hide (zero_err_le S (r.put.at_ S.nb : Int) (r.zs S.nb : Nat))
      have HZ := hide fun wr (h : Rep wr L S) => Zero_any h (r.put.at_ S.nb : Int) (r.zs S.nb : Nat) ⟨by omega, by omega⟩ ⟨by omega, by omega⟩ HCB.out
      have h2' : ¬ (most : Int) < (r.zs S.nb : Int) := by omega
      generalize S.zero (r.put.at_ S.nb : Int) (r.zs S.nb : Nat) = Z at *
      generalize r.zs S.nb = z at *
      generalize r.put.at_ S.nb = a at *
      unfold PD at HZ
      rw [h1] at x0 HX HZS ⊢
      go_enter Try.func8, Try.ntmps8
      go_wp2_with (first
        | (go_at_call 18; refine (HBL.out _).mono ?_; rintro e w2 ⟨rfl, hb2⟩; have HX2 := hide (HX.out.on hb2); have y0 := HX2.out.c0; have y1 := HX2.out.c1; have y2 := HX2.out.c2; have y3 := HX2.out.c3; have y4 := HX2.out.c4; clear hb2)
        | (go_at_call 17; refine (HZS.out _).mono ?_; rintro e w3 ⟨rfl, hb3⟩; have HX3 := hide (HX2.out.on hb3); clear hb3)
        | (go_at_call 19; refine (HZ.out _ HX3.out.rep).mono ?_; rintro e w4 ⟨u, U', rfl, hE, hR4, hG4⟩; have HTR := hide hE.tr; have HR4 := hide hR4; have HG4 := hide hG4; clear hE hR4 hG4)
        | (go_at_call 24; refine (trouble_tr HTR.out HZE.out).mono ?_; rintro e w5 ⟨⟨x, rfl⟩, k, rfl⟩))
      go_ret
      exact ⟨rfl, U', HR4.out.below (below_drewN (Below.refl _ _) k), (HX3.out.gr.trans HG4.out).trans (Grow.ofBelow U' (below_drewN (Below.refl _ _) k))⟩
    · rw [Nat.min_eq_right (by omega)]
      have HZE := hide (zero_err_le S (r.put.at_ S.nb : Int) (most : Nat))
      have HZ := hide fun wr (h : Rep wr L S) => Zero_any h (r.put.at_ S.nb : Int) (most : Nat) ⟨by omega, by omega⟩ ⟨by omega, by omega⟩ HCB.out
      have h2' : (most : Int) < (r.zs S.nb : Int) := by omega
      generalize S.zero (r.put.at_ S.nb : Int) (most : Nat) = Z at *
      generalize r.zs S.nb = z at *
      generalize r.put.at_ S.nb = a at *
      unfold PD at HZ
      rw [h1] at x0 HX HZS ⊢
      go_enter Try.func8, Try.ntmps8
      go_wp2_with (first
        | (go_at_call 18; refine (HBL.out _).mono ?_; rintro e w2 ⟨rfl, hb2⟩; have HX2 := hide (HX.out.on hb2); have y0 := HX2.out.c0; have y1 := HX2.out.c1; have y2 := HX2.out.c2; have y3 := HX2.out.c3; have y4 := HX2.out.c4; clear hb2)
        | (go_at_call 17; refine (HZS.out _).mono ?_; rintro e w3 ⟨rfl, hb3⟩; have HX3 := hide (HX2.out.on hb3); clear hb3)
        | (go_at_call 19; refine (HZ.out _ HX3.out.rep).mono ?_; rintro e w4 ⟨u, U', rfl, hE, hR4, hG4⟩; have HTR := hide hE.tr; have HR4 := hide hR4; have HG4 := hide hG4; clear hE hR4 hG4)
        | (go_at_call 24; refine (trouble_tr HTR.out HZE.out).mono ?_; rintro e w5 ⟨⟨x, rfl⟩, k, rfl⟩))
      go_ret
      exact ⟨rfl, U', HR4.out.below (below_drewN (Below.refl _ _) k), (HX3.out.gr.trans HG4.out).trans (Grow.ofBelow U' (below_drewN (Below.refl _ _) k))⟩
  · by_cases hm0 : most = 0
    · have e1 : S.runSt r most = S := by rw [St.runSt, if_neg h1, if_pos hm0]
      have e2 : S.runErr r most = 0 := by rw [St.runErr, if_neg h1, if_pos hm0]
      rw [e1, e2]
      clear e1 e2
      subst hm0
      have HTR : Hid (∀ wr, TrIs wr .nilIface 0) := hide fun _ => .inl ⟨rfl, rfl⟩
      have HPE : Hid (-9223372036854775808 ≤ (0 : Int) ∧ (0 : Int) ≤ 9223372036854775807) := hide (by omega)
      by_cases h2 : r.kind = 2
      · rw [h2] at x0 HX ⊢
        go_enter Try.func8, Try.ntmps8
        go_wp2_with (first
          | (go_at_call 18; refine (HBL.out _).mono ?_; rintro e w2 ⟨rfl, hb2⟩; have HX2 := hide (HX.out.on hb2); have y0 := HX2.out.c0; have y1 := HX2.out.c1; have y2 := HX2.out.c2; have y3 := HX2.out.c3; have y4 := HX2.out.c4; clear hb2)
          | (go_at_call 24; refine (trouble_tr (HTR.out _) HPE.out).mono ?_; rintro e w5 ⟨⟨x, rfl⟩, k, rfl⟩))
        go_ret
        exact ⟨rfl, L.U, HX2.out.rep.below (below_drewN (Below.refl _ _) k), HX2.out.gr.trans (Grow.ofBelow L.U (below_drewN (Below.refl _ _) k))⟩
      · generalize hK : r.kind = kind at *
        go_enter Try.func8, Try.ntmps8
        go_wp2_with (first
          | (go_at_call 18; refine (HBL.out _).mono ?_; rintro e w2 ⟨rfl, hb2⟩; have HX2 := hide (HX.out.on hb2); have y0 := HX2.out.c0; have y1 := HX2.out.c1; have y2 := HX2.out.c2; have y3 := HX2.out.c3; have y4 := HX2.out.c4; clear hb2)
          | (go_at_call 24; refine (trouble_tr (HTR.out _) HPE.out).mono ?_; rintro e w5 ⟨⟨x, rfl⟩, k, rfl⟩))
        go_ret
        exact ⟨rfl, L.U, HX2.out.rep.below (below_drewN (Below.refl _ _) k), HX2.out.gr.trans (Grow.ofBelow L.U (below_drewN (Below.refl _ _) k))⟩
    · have hm1 : (0 : Int) < (most : Int) := by omega
      rw [runErr_at S r h1 hm0, runSt_at S r h1 hm0]
      by_cases h2 : r.kind = 2
      · rw [if_pos h2, if_pos h2]
        have HFL := hide fun wr (h : Rep wr L S) => (Flush_any h).mono fun e w' (hp : e = .returned (if S.stepOk then .nilIface else .iface 46 (.int .i64 22)) ∧ Rep w' L S.flush ∧ Grow wr w' L.U L.U) => (show ∃ u, e = .returned u ∧ TrIs w' u (if S.stepOk then 0 else 22) ∧ Rep w' L S.flush ∧ Grow wr w' L.U L.U from ⟨_, hp.1, by cases S.stepOk; exact .inr (.inr rfl); exact .inl ⟨rfl, rfl⟩, hp.2⟩)
        have HPE : Hid (-9223372036854775808 ≤ (if S.stepOk then (0 : Int) else 22) ∧ (if S.stepOk then (0 : Int) else 22) ≤ 9223372036854775807) := hide (by split <;> omega)
        generalize (if S.stepOk then (0 : Int) else 22) = en at *
        unfold PD at HFL
        rw [h2] at x0 HX ⊢
        go_enter Try.func8, Try.ntmps8
        go_wp2_with (first
          | (go_at_call 18; refine (HBL.out _).mono ?_; rintro e w2 ⟨rfl, hb2⟩; have HX2 := hide (HX.out.on hb2); have y0 := HX2.out.c0; have y1 := HX2.out.c1; have y2 := HX2.out.c2; have y3 := HX2.out.c3; have y4 := HX2.out.c4; clear hb2)
          | (go_at_call 20; refine (HFL.out _ HX2.out.rep).mono ?_; rintro e w4 ⟨u, rfl, hE, hR4, hG4⟩; have HTR := hide hE; have HR4 := hide hR4; have HG4 := hide hG4; clear hE hR4 hG4)
          | (go_at_call 24; refine (trouble_tr HTR.out HPE.out).mono ?_; rintro e w5 ⟨⟨x, rfl⟩, k, rfl⟩))
        go_ret
        exact ⟨rfl, L.U, HR4.out.below (below_drewN (Below.refl _ _) k), (HX2.out.gr.trans HG4.out).trans (Grow.ofBelow L.U (below_drewN (Below.refl _ _) k))⟩
      · rw [if_neg h2, if_neg h2]
        have HPE := hide (putErr_le S (r.put.at_ S.nb : Int) S.sz)
        have hbl : (r.put.bs S.sz).length = S.sz := bs_len r.put S.sz
        cases hpast : r.put.past with
        | true =>
          have HTH := hide fun wr g (h : Rep wr L S) (hp : PieceAt wr g (r.put.bs S.sz)) => Through_any h (r.put.at_ S.nb : Int) (sl g (r.put.bs S.sz).length) hp.bsl
          rw [hbl] at HTH
          have e1 : S.put1 r.put = S.through (r.put.at_ S.nb) (r.put.bs S.sz) := by rw [St.put1, hpast]; rfl
          rw [e1]
          generalize S.through (r.put.at_ S.nb) (r.put.bs S.sz) = S' at *
          generalize S.putErr (r.put.at_ S.nb : Int) S.sz = en at *
          generalize r.put.at_ S.nb = a at *
          generalize hK : r.kind = kind at *
          unfold PD at HTH
          rw [hpast] at x3 HX HBL HBY
          go_enter Try.func8, Try.ntmps8
          go_wp2_with (first
            | (go_at_call 18; refine (HBL.out _).mono ?_; rintro e w2 ⟨rfl, hb2⟩; have HX2 := hide (HX.out.on hb2); have y0 := HX2.out.c0; have y1 := HX2.out.c1; have y2 := HX2.out.c2; have y3 := HX2.out.c3; have y4 := HX2.out.c4; clear hb2)
            | (go_at_call 22; refine (HBY.out _ HX2.out.bs).mono ?_; rintro e w3 ⟨g, rfl, hg3, hp3, hb3⟩; have HX3 := hide (HX2.out.on hb3); have HP3 := hide hp3; clear hb3 hp3)
            | (go_at_call 21; refine (HTH.out _ _ HX3.out.rep HP3.out).mono ?_; rintro e w4 ⟨u, U', rfl, hE, hR4, hG4⟩; have HTR := hide hE.tr; have HR4 := hide hR4; have HG4 := hide hG4; clear hE hR4 hG4)
            | (go_at_call 24; refine (trouble_tr HTR.out HPE.out).mono ?_; rintro e w5 ⟨⟨x, rfl⟩, k, rfl⟩))
          go_ret
          exact ⟨rfl, U', HR4.out.below (below_drewN (Below.refl _ _) k), (HX3.out.gr.trans HG4.out).trans (Grow.ofBelow U' (below_drewN (Below.refl _ _) k))⟩
        | false =>
          have HTH := hide fun wr g (h : Rep wr L S) (hp : PieceAt wr g (r.put.bs S.sz)) => Write_any h (r.put.at_ S.nb : Int) (sl g (r.put.bs S.sz).length) hp.bsl HCB.out
          rw [hbl] at HTH
          have e1 : S.put1 r.put = S.write (r.put.at_ S.nb) (r.put.bs S.sz) := by rw [St.put1, hpast]; rfl
          rw [e1]
          generalize S.write (r.put.at_ S.nb) (r.put.bs S.sz) = S' at *
          generalize S.putErr (r.put.at_ S.nb : Int) S.sz = en at *
          generalize r.put.at_ S.nb = a at *
          generalize hK : r.kind = kind at *
          unfold PD at HTH
          rw [hpast] at x3 HX HBL HBY
          go_enter Try.func8, Try.ntmps8
          go_wp2_with (first
            | (go_at_call 18; refine (HBL.out _).mono ?_; rintro e w2 ⟨rfl, hb2⟩; have HX2 := hide (HX.out.on hb2); have y0 := HX2.out.c0; have y1 := HX2.out.c1; have y2 := HX2.out.c2; have y3 := HX2.out.c3; have y4 := HX2.out.c4; clear hb2)
            | (go_at_call 22; refine (HBY.out _ HX2.out.bs).mono ?_; rintro e w3 ⟨g, rfl, hg3, hp3, hb3⟩; have HX3 := hide (HX2.out.on hb3); have HP3 := hide hp3; clear hb3 hp3)
            | (go_at_call 23; refine (HTH.out _ _ HX3.out.rep HP3.out).mono ?_; rintro e w4 ⟨u, U', rfl, hE, hR4, hG4⟩; have HTR := hide hE.tr; have HR4 := hide hR4; have HG4 := hide hG4; clear hE hR4 hG4)
            | (go_at_call 24; refine (trouble_tr HTR.out HPE.out).mono ?_; rintro e w5 ⟨⟨x, rfl⟩, k, rfl⟩))
          go_ret
          exact ⟨rfl, U', HR4.out.below (below_drewN (Below.refl _ _) k), (HX3.out.gr.trans HG4.out).trans (Grow.ofBelow U' (below_drewN (Below.refl _ _) k))⟩
end Go.Proofs.Ytlpmpicmpklaoab
