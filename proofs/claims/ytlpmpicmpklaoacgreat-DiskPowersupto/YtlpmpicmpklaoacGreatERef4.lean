import Derived.Test.YtlpmpicmpklaoacGreatERef3
import Derived.Deep.AppendLies
namespace Go.Proofs.YtlpmpicmpklaoacGreat
open Go.RowKit Go.Maps
set_option linter.unusedVariables false
set_option linter.unusedSimpArgs false
set_option maxRecDepth 20000

theorem rWaiting {w : World} {L : RLay} {R : RSt} {S : St} (hR : RRep w L R) (hS : Sim S R) (b : Int) (hb : -9223372036854775808 ≤ b ∧ b ≤ 9223372036854775807) (hlen : R.items.length + 1 ≤ 4398046511104) :
    Calls Tryz.prog 44 #[PR L, .int .i64 b] w fun e w' => e = .returned (.int .i64 (S.wait b : Int)) ∧ Below w.heap.size w w' := by
  have HCA := hide (rcached hR b hb hlen)
  have e : S.wait b = (R.of b).length := by
    unfold St.wait
    split
    · obtain ⟨k, rfl⟩ : ∃ k : Nat, b = (k : Int) := ⟨b.toNat, by omega⟩
      rw [Int.toNat_natCast, hS.cacheOf]; simp
    · have : R.of b = [] := by
        unfold RSt.of
        rw [List.filter_eq_nil_iff]
        intro x hx
        have := (hR.pi x hx).1
        rw [hS.nb] at this
        simp
        omega
      rw [this]; rfl
  rw [e]
  have hol := of_len R b
  clear hR hS e
  generalize R.of b = F at *
  unfold PR at *
  go_enter Tryz.func44, Tryz.ntmps44
  go_wp2_with (go_at_call 70; refine HCA.out.mono ?_; rintro e w2 ⟨v, rfl, hown, hb2⟩; obtain ⟨av, cv, ev, hv1, hv2⟩ := rowForm hown; subst ev; unfold maxLen at hv2; clear hown)
  go_ret
  exact ⟨rfl, hb2⟩

theorem rDurable {w : World} {L : RLay} {R : RSt} {S : St} (hR : RRep w L R) (hS : Sim S R) (b : Int) :
    Calls Tryz.prog 30 #[PR L, .int .i64 b] w fun e w' => RdPost w L S S (S.durErr b) (S.med b.toNat) b e w' := by
  have h : RD w L S R.wh := ⟨R, hR, hS, rfl⟩
  have HD := hide h
  have HT := hide (rthere h b)
  have c2 := h.cells.1.c2
  have c3 := h.cells.1.c3
  have hnb := h.nb.2
  clear h
  unfold PR at *
  by_cases hr : 0 ≤ b ∧ b < S.nb
  · have e0 : decide (0 ≤ b ∧ b < (S.nb : Int)) = true := decide_eq_true hr
    rw [e0] at HT
    obtain ⟨k, rfl⟩ : ∃ k : Nat, b = (k : Int) := ⟨b.toNat, by omega⟩
    have hk : k < S.nb := by omega
    rw [Int.toNat_natCast]
    have HMD := hide (hS.med k)
    have hkR : k < R.nb := by rw [hS.nb]; exact hk
    have hs : R.sz ≤ 1024 := by have := hR.szs; omega
    have HMO := hide (hR.pm k hkR)
    have k1 := (hR.medAt hkR).1
    have k2 := (hR.spAt hkR).1
    obtain ⟨m1, m2⟩ := hR.mc
    obtain ⟨s1, s2⟩ := hR.sc
    rw [hS.nb] at m1 s1
    unfold maxLen at m2 s2
    clear hR hS
    cases hsp : R.sp k with
    | true =>
      have e0 : S.med k = none := by rw [HMD.out, hsp]; rfl
      have e1 : S.durErr k = 21 := by unfold St.durErr; rw [if_neg (not_not_intro hr), Int.toNat_natCast, e0]; rfl
      rw [e1]
      rw [hsp] at k2
      have HN := hide (rnone HD.out 21 k)
      unfold PR at HN
      clear e0 e1
      go_enter Tryz.func30, Tryz.ntmps30
      go_wp2_with (first
        | (go_at_call 68; refine HT.out.mono ?_; rintro e w' ⟨rfl, hw⟩; cases hw)
        | (go_at_call 69; refine HN.out.mono ?_; rintro e w3 ⟨rfl, hx, hy⟩))
      go_ret2
      exact ⟨⟨_, rfl, fun h => absurd h (by decide), fun _ => rfl⟩, hx, hy⟩
    | false =>
      have e0 : S.med k = some (R.med k).l := by rw [HMD.out, hsp]; rfl
      have e1 : S.durErr k = 0 := by unfold St.durErr; rw [if_neg (not_not_intro hr), Int.toNat_natCast, e0]; rfl
      have HV := hide e0
      rw [e1]
      rw [hsp] at k2
      clear e0 e1
      go_enter Tryz.func30, Tryz.ntmps30
      go_wp2_with (first
        | (go_at_call 68; refine HT.out.mono ?_; rintro e w' ⟨rfl, hw⟩; cases hw)
        | (go_at_call 41; refine (rCopyP HMO.out hs).mono ?_; rintro e w4 ⟨rfl, hp4, hb4, hz4⟩; have HD4 := hide (HD.out.below hb4); have HB4 := hide hb4; have HP4 := hide hp4; clear hp4 hb4 hz4)
        | (go_at_call 71; have HF := hide (rfine HD4.out); unfold PR at HF; refine HF.out.mono ?_; rintro e w5 ⟨rfl, hx, hy⟩))
      go_ret2
      have hnu : ¬ L.U w.heap.size := fun hu => by have := HD.out.uLt _ hu; omega
      exact ⟨⟨sl w.heap.size R.sz, rfl, fun _ => ⟨(R.med k).l, HV.out, w.heap.size, by rw [HMO.out.len], Nat.le_refl _, HP4.out.kept (hy.keep _ HP4.out.lt hnu)⟩, fun h => absurd rfl h⟩, hx, (Grow.ofBelow L.U HB4.out).trans hy⟩
  · have e1 : S.durErr b = 2 := by unfold St.durErr; rw [if_pos hr]
    have e0 : decide (0 ≤ b ∧ b < (S.nb : Int)) = false := decide_eq_false hr
    rw [e0] at HT
    rw [e1]
    have HN := hide (rnone HD.out 2 b)
    unfold PR at HN
    go_enter Tryz.func30, Tryz.ntmps30
    go_wp2_with (first
      | (go_at_call 68; refine HT.out.mono ?_; rintro e w' ⟨rfl, hw⟩; cases hw)
      | (go_at_call 69; refine HN.out.mono ?_; rintro e w2 ⟨rfl, hx, hy⟩))
    go_ret2
    exact ⟨⟨_, rfl, fun h => absurd h (by decide), fun _ => rfl⟩, hx, hy⟩

structure WPost (w : World) (L : RLay) (S' : St) (n b : Int) (e : Ending) (w' : World) : Prop where
  ret : e = .returned (.int .i64 n)
  rest : ∃ L' : RLay, L'.p = L.p ∧ RD w' L' S' (if n = 0 then -1 else b) ∧ Grow w w' L.U L'.U

theorem cell_two_new (w : World) (a b : Value) (t : TypeId) : ∀ j u, [a, b][j]? = some u → (w.alloc (.cells #[a, b] t)).cell? ((⟨w.heap.size, 0, none⟩ : Addr).add j) = some u := by
  intro j u hu
  rw [Addr.add_lit, Nat.zero_add, cell_of_row _ _ _ _ _ _ (Go.heap_alloc_new w _), List.getElem?_toArray]
  exact hu
theorem RRep.push {w w6 : World} {L : RLay} {R : RSt} (h : RRep w L R) (hk0 : ∀ b, b < w.heap.size → some b ≠ L.cv.ownBlock → w6.heap[b]? = w.heap[b]?) (cv : Value) (its : List (Nat × Pc)) (U' : Nat → Prop) (hU : ∀ b, L.U b → U' b) (hlt : ∀ b, U' b → b < w6.heap.size)
    (hc : w6.ownsRow 0 114 2 cv its.length (itemVals R.sz its)) (uc : ∀ g, cv.ownBlock = some g → U' g) (pi : ∀ x ∈ its, x.1 < R.nb ∧ x.2.ok w6 U' R.sz) :
    RRep (w6.setCell ⟨L.p, 4, none⟩ cv) { L with cv := cv, U := U' } { R with items := its } := by
  have hk : ∀ b, b ≠ L.p → (w6.setCell ⟨L.p, 4, none⟩ cv).heap[b]? = w6.heap[b]? := fun b hb => Go.heap_setCell_other _ _ _ _ hb
  have hz : (w6.setCell ⟨L.p, 4, none⟩ cv).heap.size = w6.heap.size := by simp [World.setCell]
  have hn : ∀ g, (∀ g', L.cv.ownBlock = some g' → g' ≠ g) → some g ≠ L.cv.ownBlock := fun g h e => h g e.symm rfl
  obtain ⟨ms, m1, m2, m3⟩ := h.hm
  obtain ⟨ss, s1, s2, s3⟩ := h.hs
  have p1 : w6.heap[L.p]? = some (.cells (refRow L R) 72 (0, 0)) := (hk0 _ (h.uLt _ h.uP) (hn _ fun g hg => (h.cacheNe hg).1)).trans h.hp
  have m1' : w6.heap[L.mb]? = some (.cells ms 22 (0, 0)) := (hk0 _ (h.uLt _ h.uM) (hn _ fun g hg => (h.cacheNe hg).2.1)).trans m1
  have s1' : w6.heap[L.sb]? = some (.cells ss 4 (0, 0)) := (hk0 _ (h.uLt _ h.uS) (hn _ fun g hg => (h.cacheNe hg).2.2)).trans s1
  refine ⟨h.nb1, h.nb2, h.szs, h.lf, ?_, ⟨ms, (hk _ (neType m1 h.hp (by decide))).trans m1', m2, m3⟩, h.mc, ⟨ss, (hk _ (neType s1 h.hp (by decide))).trans s1', s2, s3⟩, h.sc,
    fun i hi => (h.pm i hi).kept ((hk _ (h.pieceNe (h.pm i hi).pc).1).trans (hk0 _ (h.pm i hi).pc.lt (hn _ fun g hg => ?_))) (hU _), rowKept hc fun g hg => hk g ?_, uc, fun x hx => ⟨(pi x hx).1, (pi x hx).2.kept (hk _ (neType (pi x hx).2.pc.1 p1 (by decide))) id⟩, hU _ h.uP, hU _ h.uM, hU _ h.uS, fun b hb => by rw [hz]; exact hlt b hb⟩
  · exact Go.heap_setCell_same w6 L.p 4 _ 72 _ p1
  · obtain ⟨cs, hcs⟩ := rowCells h.hc hg
    exact neType hcs (h.pm i hi).pc.1 (by decide)
  · obtain ⟨cs, hcs⟩ := rowCells hc hg
    exact neType hcs p1 (by decide)
theorem RD.addWr {w : World} {L : RLay} {S : St} {wh : Int} (h : RD w L S wh) : RD (w.setCell ⟨L.p, 8, none⟩ (.int .i64 (wrap64 (S.wr + 1)))) L S.addWr wh ∧ Grow w (w.setCell ⟨L.p, 8, none⟩ (.int .i64 (wrap64 (S.wr + 1)))) L.U L.U ∧ (w.setCell ⟨L.p, 8, none⟩ (.int .i64 (wrap64 (S.wr + 1)))).heap.size = w.heap.size :=
  h.store 8 _ S.off S.fuse S.rd (wrap64 (S.wr + 1)) S.th S.fl wh h.fz (fun R h1 h2 h3 h4 h5 h6 h7 => by simp only [refRow, ← h1, ← h2, ← h3, ← h5, ← h6, ← h7]; rfl)
theorem Sim.pushed {S : St} {R : RSt} (h : Sim S R) (k : Nat) (x : Pc) : Sim (S.pushed k x.l) { R with items := R.items ++ [(k, x)] } :=
  ⟨h.nb, h.sz, h.on, h.left, h.rd, h.wr, h.th, h.fl, fun j => by
    show updF S.cache k (S.cache k ++ [x.l]) j = ((R.items ++ [(k, x)]).filter fun y => y.1 == j).map fun y => y.2.l
    rw [List.filter_append, List.map_append, ← h.cache j]
    by_cases e : j = k
    · subst e; rw [updF_same]; simp
    · rw [updF_other _ _ e]
      have : ¬ k = j := fun h => e h.symm
      simp [this], h.med⟩

/-- an item is laid into the document's cache: behind the append and the store -/
theorem RRep.pushed {w w6 : World} {L : RLay} {R : RSt} {S : St} {k g cap n : Nat} {pc : Pc} (h : RRep w L R) (hS : Sim S R) (hk : k < R.nb) (hp : PieceAt w pc.g pc.l) (hl : pc.l.length = R.sz)
    (ho : w6.ownsRow 0 114 2 (.slice (some ⟨g, 0, none⟩) n cap) n (itemVals R.sz R.items ++ [.int .i64 (k : Int), sl pc.g R.sz])) (hn : n = R.items.length + 1) (hg : w.grownBy w6 L.cv.ownBlock) (hloc : L.cv.ownBlock = some g ∨ g = w.heap.size) (hlt : g < w6.heap.size) :
    ∃ L' : RLay, L'.p = L.p ∧ RD (w6.setCell ⟨L.p, 4, none⟩ (.slice (some ⟨g, 0, none⟩) n cap)) L' (S.pushed k pc.l) R.wh ∧ (∀ b, L.U b → L'.U b) ∧ (∀ b, L'.U b → L.U b ∨ b = pc.g ∨ w.heap.size ≤ b) ∧ (∀ b, b < w.heap.size → ¬ L.U b → (w6.setCell ⟨L.p, 4, none⟩ (.slice (some ⟨g, 0, none⟩) n cap)).heap[b]? = w.heap[b]?) := by
  subst hn
  have hk0 : ∀ b, b < w.heap.size → some b ≠ L.cv.ownBlock → w6.heap[b]? = w.heap[b]? := fun b hb hne => hg.block b hb hne
  have hpn : ∀ x : Pc, PieceAt w x.g x.l → PieceAt w6 x.g x.l := fun x hx => hx.kept (hk0 _ hx.lt fun e => by
    obtain ⟨cs, hcs⟩ := rowCells h.hc e.symm
    exact neType hcs hx.1 (by decide) rfl)
  have hsz := hg.size
  refine ⟨{ L with cv := .slice (some ⟨g, 0, none⟩) (R.items.length + 1) cap, U := fun b => L.U b ∨ b = pc.g ∨ b = g }, rfl, ⟨_, h.push hk0 (.slice (some ⟨g, 0, none⟩) (R.items.length + 1) cap) (R.items ++ [(k, pc)]) (fun b => L.U b ∨ b = pc.g ∨ b = g) (fun b hb => .inl hb) (fun b hb => ?_) ?_ ?_ ?_, hS.pushed k pc, rfl⟩, fun b hb => .inl hb, fun b hb => ?_, fun b hb hu => ?_⟩
  · rcases hb with hb | rfl | rfl
    · exact Nat.lt_of_lt_of_le (h.uLt b hb) hsz
    · exact (hpn pc hp).lt
    · exact hlt
  · rw [List.length_append, itemVals_snoc]; exact ho
  · intro g' hg'
    simp only [Value.ownBlock, Option.some.injEq] at hg'
    exact .inr (.inr hg'.symm)
  · intro x hx
    rcases List.mem_append.1 hx with hx | hx
    · obtain ⟨a, b⟩ := h.pi x hx
      exact ⟨a, ⟨hpn _ b.pc, b.len, .inl b.u⟩⟩
    · simp only [List.mem_singleton] at hx
      subst hx
      exact ⟨hk, ⟨hpn _ hp, hl, .inr (.inl rfl)⟩⟩
  · rcases hb with hb | hb | hb
    · exact .inl hb
    · exact .inr (.inl hb)
    · rcases hloc with e | e
      · exact .inl (hb ▸ h.uc g e)
      · exact .inr (.inr (by omega))
  · have hbp : b ≠ L.p := fun e => hu (e ▸ h.uP)
    rw [Go.heap_setCell_other _ _ _ _ hbp]
    exact hk0 b hb fun e => hu (h.uc b e.symm)

theorem split_le (n : Nat) : ∀ xs : List (Nat × Pc), (xs.filter fun x => decide (x.1 < n + 1)).length ≤ (xs.filter fun x => decide (x.1 < n)).length + (xs.filter fun x => x.1 == n).length
  | [] => by simp
  | x :: r => by
    have ih := split_le n r
    simp only [List.filter_cons]
    by_cases h1 : x.1 < n
    · have h2 : x.1 < n + 1 := by omega
      have h3 : ¬ x.1 = n := by omega
      simp only [h1, h2, decide_true, if_true, List.length_cons, beq_iff_eq, h3, if_false]
      omega
    · by_cases h3 : x.1 = n
      · have h2 : x.1 < n + 1 := by omega
        have h4 : (x.1 == n) = true := by simp [h3]
        rw [if_pos (by simp [h2]), if_neg (by simp [h1]), if_pos h4]
        simp only [List.length_cons]
        omega
      · have h2 : ¬ x.1 < n + 1 := by omega
        simp only [h1, h2, decide_false, Bool.false_eq_true, if_false, beq_iff_eq, h3]
        exact ih
theorem count_le (xs : List (Nat × Pc)) (m : Nat) (h : ∀ k, (xs.filter fun x => x.1 == k).length ≤ m) : ∀ n, (xs.filter fun x => decide (x.1 < n)).length ≤ n * m
  | 0 => by simp
  | n + 1 => by
    have h1 := split_le n xs
    have h2 := count_le xs m h n
    have h3 := h n
    rw [Nat.succ_mul]
    omega
theorem items_le {w : World} {L : RLay} {R : RSt} {S : St} (hR : RRep w L R) (hS : Sim S R) {m : Nat} (hb : ∀ k, (S.cache k).length ≤ m) : R.items.length ≤ R.nb * m := by
  have h := count_le R.items m (fun k => by have := hb k; rw [hS.cache k] at this; simpa using this) R.nb
  rw [List.filter_eq_self.2 (fun x hx => by simpa using (hR.pi x hx).1)] at h
  exact h
theorem items_lt {w : World} {L : RLay} {R : RSt} {S : St} (hR : RRep w L R) (hS : Sim S R) (hb : ∀ k, (S.cache k).length + 1 ≤ 268435456) : R.items.length + 1 < 4398046511104 := by
  have h1 := items_le hR hS (m := 268435456) (fun k => by have := hb k; omega)
  have h2 : R.nb * 268435456 ≤ 8192 * 268435456 := Nat.mul_le_mul_right _ hR.nb2
  omega

theorem RRep.grownCell {w w6 : World} {L : RLay} {R : RSt} {ac : Option Addr} {n cc : Nat} (h : RRep w L R) (ec : L.cv = .slice ac n cc) (hg : w.grownBy w6 (Value.slice ac n cc).ownBlock) : w6.cell? ⟨L.p, 4, none⟩ = some (.slice ac n cc) ∧ w6.frozen? ⟨L.p, 4, none⟩ = false := by
  rw [← ec] at hg
  have hp6 := (hg.block L.p (h.uLt _ h.uP) (fun e => (h.cacheNe e.symm).1 rfl)).trans h.hp
  exact ⟨by rw [cell_of_row _ _ _ _ _ _ hp6, ← ec]; rfl, frozen_of_row _ _ _ _ 72 hp6⟩

theorem step_callTo {P : Program} {ops : Array Oper} {o : Oper} {a : Act} {w : World} {K : Act → World → Prop} {Q : Exit → Act → World → Prop} {E : Prop} (hg : o.guard = none) (f : FuncId) (args : Array Value) (hrun : (execOp a.eval o).run P w = .ok (.enter f args) w)
    {post : Ending → World → Prop} (hc : Calls P f args w post) (hp : ∀ e w', post e w' → ∃ v, e = .returned v) (h : ∀ v w', post (.returned v) w' → K (a.put o.dst v) w') :
    if Region.wanted o (yielded ops a.tmps) = true then Oper.wp P o a w K Q else E := by
  have hw : Region.wanted o (yielded ops a.tmps) = true := by simp [Region.wanted, hg]
  rw [if_pos hw]
  unfold Oper.wp
  rw [hrun, Oper.upon_enter]
  refine hc.mono fun e w'' hh => ?_
  obtain ⟨v, rfl⟩ := hp e w'' hh
  exact h v w'' hh

set_option maxHeartbeats 1000000 in
theorem rWrite {w : World} {L : RLay} {S : St} {wh : Int} (h : RD w L S wh) (b : Int) (v : Value) {l : List Nat} (hv : BSl w v l) (hvU : 0 < l.length → ∀ g, blockOf v = some g → ¬ L.U g) (hb : ∀ k, (S.cache k).length + 1 ≤ 268435456) :
    Calls Tryz.prog 52 #[PR L, .int .i64 b, v] w fun e w' => WPost w L (S.write b l) (S.putErr b l.length) b e w' := by
  obtain ⟨i0, hi, hz0, hz1, hz2⟩ := info_parts info_item
  have HD := hide h
  have HF := hide (rfits h b v hv)
  have HS := hide (rstep h)
  have HV := hide hv
  have HVU := hide hvU
  have HCB := hide hb
  clear h hv hvU hb
  unfold PR at *
  by_cases hf : S.fitErr b l.length = 0
  · have hbr : 0 ≤ b ∧ b < S.nb := by
      unfold St.fitErr at hf
      split at hf
      · simp at hf
      · rename_i h; exact Decidable.not_not.1 h
    have hll : l.length = S.sz := by
      unfold St.fitErr at hf
      rw [if_neg (not_not_intro hbr)] at hf
      split at hf
      · simp at hf
      · rename_i h; exact Decidable.not_not.1 h
    obtain ⟨k, rfl⟩ : ∃ k : Nat, b = (k : Int) := ⟨b.toNat, by omega⟩
    have hk : k < S.nb := by omega
    rw [hf] at HF
    have e0 : S.putErr k l.length = if S.stepOk = false then 22 else 0 := by
      unfold St.putErr
      rw [if_neg (not_not_intro hbr), if_neg (not_not_intro hll)]
    cases hok : S.stepOk with
    | false =>
      have e1 : S.putErr k l.length = 22 := by rw [e0, hok]; rfl
      have e2 : S.write k l = S.step := by rw [St.write, St.putSt, e1]; rfl
      rw [e1, e2]
      rw [hok] at HS
      clear e0 e1 e2
      go_enter Tryz.func52, Tryz.ntmps52
      go_wp2_with (first
        | (go_at_call 79; refine HF.out.mono ?_; rintro e w' ⟨rfl, hw⟩; cases hw)
        | (go_at_call 81; refine HS.out.mono ?_; rintro e w2 ⟨rfl, hx, hy, hz⟩; have HN := hide (rrefuse hx 22 k); unfold PR at HN)
        | (go_at_call 80; refine HN.out.mono ?_; rintro e w3 ⟨rfl, hx3, hy3⟩))
      go_ret
      exact ⟨rfl, L, rfl, hx3, hy.trans hy3⟩
    | true =>
      have e1 : S.putErr k l.length = 0 := by rw [e0, hok]; rfl
      have e2 : S.write k l = (S.step.pushed k l).addWr := by rw [St.write, St.putSt, e1]; rfl
      rw [e1, e2]
      rw [hok] at HS
      have hsz : l.length ≤ 1024 := by have := HD.out.szs; omega
      have hl0 : 0 < l.length := by have := HD.out.szs; omega
      clear e0 e1 e2
      go_enter Tryz.func52, Tryz.ntmps52
      go_wp2_with (first
        | (go_at_call 79; refine HF.out.mono ?_; rintro e w' ⟨rfl, hw⟩; cases hw)
        | (go_at_call 81; refine HS.out.mono ?_; rintro e w2 ⟨rfl, hx, hy, hz⟩))
      obtain ⟨R2, r1, r2, r3⟩ := hx
      have hb2 : ∀ k, (S.step.cache k).length + 1 ≤ 268435456 := fun k => by rw [step_cache]; exact HCB.out k
      have hil := items_lt r1 r2 hb2
      obtain ⟨ac, cc, ec, hc1, hc2⟩ := rowForm r1.hc
      have HB0 := hide (Below.drew (Below.refl w2.heap.size w2))
      have HR0 := hide (r1.below HB0.out)
      have HSM := hide r2
      have HW := hide r3
      have HVr := hide (HV.out.keptIf (w' := w2.drew) fun g hg hlt => hy.keep g hlt (HVU.out hl0 g hg))
      have HCP : Hid (Calls Tryz.prog 41 #[v] w2.drew fun e w' => e = .returned (sl w2.heap.size l.length) ∧ PieceAt w' w2.heap.size l ∧ Below w2.heap.size w2.drew w' ∧ w'.heap.size = w2.heap.size + 1) := hide (rCopy_any v l w2.drew HVr.out (by omega) hl0)
      have HZ2 := hide hz
      have HLL := hide hll
      clear hz hll
      have hcell : ∀ w', RRep w' L R2 → w'.cell? ⟨L.p, 4, none⟩ = some (.slice ac R2.items.length cc) := fun w' h' => by rw [← ec]; exact h'.cell 4
      have HCE := hide hcell
      have k0 := hcell _ HR0.out
      have HY := hide hy
      have HEC := hide ec
      clear hcell r1 r2 r3 hy ec
      have k00 : w2.cell? ⟨L.p, 4, none⟩ = some (.slice ac R2.items.length cc) := k0
      go_region_law (first
          | (refine step_callTo rfl 41 #[v] (by kernel_rfl) HCP.out (fun e w' h => ⟨_, h.1⟩) ?_; rintro v4 w4 ⟨hv4, hp4, hb4, hz4⟩; injection hv4 with hv4; subst hv4; have HR4 := hide (HR0.out.below hb4); have k4 := HCE.out _ HR4.out; have k5 := HCE.out _ (HR4.out.below ((Below.refl _ _).alloc (Nat.le_refl _) (.cells #[.int .i64 (k : Int), sl w2.heap.size l.length] 114))); have HKA : Hid (∀ o, (w4.alloc o).cell? ⟨L.p, 4, none⟩ = some (.slice ac R2.items.length cc)) := hide fun o => HCE.out _ (HR4.out.below ((Below.refl _ _).alloc (Nat.le_refl _) o)); have HHC : Hid (∀ o, (w4.alloc o).ownsRow 0 114 2 (.slice ac R2.items.length cc) R2.items.length (itemVals R2.sz R2.items)) := hide (fun o => by rw [← HEC.out]; exact (HR4.out.below ((Below.refl _ _).alloc (Nat.le_refl _) o)).hc); have HRA : Hid (∀ o, RRep (w4.alloc o) L R2) := hide fun o => HR4.out.below ((Below.refl _ _).alloc (Nat.le_refl _) o); have HZ4 := hide hz4; have HP4 := hide hp4; have HB4 := hide hb4; clear hp4 hb4 hz4)
          | (refine step_append_lies _ rfl (.tmp 30) (.tmp 35) 68 rfl 0 114 i0 (.agg #[.int .i64 0, .slice none 0 0]) 2 32 Tryz.underlying68 hi hz0 hz1 hz2 rfl (by decide) (.slice ac R2.items.length cc) R2.items.length (itemVals R2.sz R2.items) rfl (HHC.out _) ⟨w4.heap.size, 0, none⟩ 1 1 [.int .i64 (k : Int), sl w2.heap.size l.length] rfl rfl (cell_two_new _ _ _ _) (by intro u hu; simp only [List.mem_cons, List.not_mem_nil, or_false] at hu; rcases hu with rfl | rfl <;> rfl) (by decide) (by unfold maxLen; omega) (by omega) (Nat.zero_le _) (w4.heap.size + 1) (by simp) ?_; intro g cap w6 ho6 hg6 hloc6 hlt6; obtain ⟨k6, f6⟩ := (HRA.out _).grownCell HEC.out hg6; have HO6 := hide ho6; have HG6 := hide hg6; have HLO6 := hide hloc6; have HLT6 := hide hlt6; clear ho6 hg6 hloc6 hlt6))
      all_goals
        have hw5 := (Below.refl w4.heap.size w4).alloc (Nat.le_refl _) (.cells #[.int .i64 (k : Int), sl w2.heap.size l.length] 114)
        have hsz2 : R2.sz = l.length := by rw [HSM.out.sz, step_sz]; exact HLL.out.symm
        have ho := HO6.out
        rw [← hsz2] at ho
        obtain ⟨L', eL, hD7, hU1, hU2, hK7⟩ := (HRA.out (.cells #[.int .i64 (k : Int), sl w2.heap.size l.length] 114)).pushed HSM.out (k := k) (pc := ⟨w2.heap.size, l⟩) (by rw [HSM.out.nb, step_nb]; exact hk) (HP4.out.kept (hw5.block _ HP4.out.lt)) hsz2.symm ho rfl (by rw [HEC.out]; exact HG6.out) (by rw [HEC.out]; rcases HLO6.out with e | e; exact .inl e; exact .inr (by simpa using e)) HLT6.out
        have HG7 : Hid (Grow w (w6.setCell ⟨L.p, 4, none⟩ (.slice (some ⟨g, 0, none⟩) (R2.items.length + 1) cap)) L.U L'.U) := hide (HY.out.trans ⟨HG6.out.os.trans (hw5.os.trans (HB4.out.os.trans HB0.out.os)), HG6.out.tape.trans (hw5.tape.trans (HB4.out.tape.trans HB0.out.tape)), HG6.out.output.trans (hw5.output.trans (HB4.out.output.trans HB0.out.output)), by have := HG6.out.size; have := HZ4.out; simp [World.setCell] at *; omega, fun b hb hu => by
          rw [hK7 b (by have := HZ4.out; simp; omega) hu, hw5.block b (by have := HZ4.out; omega), HB4.out.block b hb]
          exact HB0.out.block b hb, fun b hb hu => by
          rcases hU2 b hu with h | h | h
          · exact h
          · simp only at h; omega
          · have := HZ4.out
            simp at h
            omega, hU1⟩)
        have HD7 := hide hD7
        have c8 := hD7.cells.1.c8
        have f8 := hD7.cells.1.free 8
        rw [eL] at c8 f8
        obtain ⟨q1, q2, q3⟩ := hD7.addWr
        rw [eL] at q1 q2
        have HQ2 := hide q2
        have HF9 := hide (rfine q1)
        unfold PR at HF9
        rw [eL] at HF9
        have e9 : (S.step.pushed k l).wr = S.step.wr := rfl
        clear hD7 q1 q2 q3 hK7 hU1 hU2 hw5 ho
        go_wp2_with (go_at_call 71; refine HF9.out.mono ?_; rintro e w9 ⟨rfl, hx9, hy9⟩)
        go_ret
        exact ⟨rfl, L', eL, hx9, HG7.out.trans (HQ2.out.trans hy9)⟩
  · have hf2 : S.putErr b l.length = S.fitErr b l.length := by
      unfold St.putErr
      unfold St.fitErr at hf ⊢
      split
      · rfl
      · rename_i h1
        split
        · rfl
        · rename_i h2
          rw [if_neg h1, if_neg h2] at hf
          exact absurd rfl hf
    have hne22 : S.fitErr b l.length ≠ 22 := by
      unfold St.fitErr
      split
      · decide
      · split <;> decide
    have e2 : S.write b l = S := by rw [St.write, St.putSt, hf2, if_neg hf, if_neg hne22]
    rw [hf2, e2]
    have hw : WPost w L S (S.fitErr b l.length) b = fun e w' => WPost w L S (S.fitErr b l.length) b e w' := rfl
    have HN := hide (rrefuse HD.out (S.fitErr b l.length) b)
    unfold PR at HN
    have HNE := hide hf
    have HPO : Hid (∀ e w', e = .returned (.int .i64 (S.fitErr b l.length)) ∧ RD w' L S b ∧ Grow w w' L.U L.U → WPost w L S (S.fitErr b l.length) b e w') := hide fun e w' h => ⟨h.1, L, rfl, by rw [if_neg HNE.out]; exact h.2.1, h.2.2⟩
    clear hf2 hne22 e2 hw
    generalize S.fitErr b l.length = en at *
    go_enter Tryz.func52, Tryz.ntmps52
    go_wp2_with (first
      | (go_at_call 79; refine HF.out.mono ?_; rintro e w' ⟨rfl, hw⟩; cases hw)
      | (go_at_call 80; refine HN.out.mono ?_; rintro e w3 ⟨rfl, hx3, hy3⟩))
    go_ret
    exact HPO.out _ _ ⟨rfl, hx3, hy3⟩
end Go.Proofs.YtlpmpicmpklaoacGreat
