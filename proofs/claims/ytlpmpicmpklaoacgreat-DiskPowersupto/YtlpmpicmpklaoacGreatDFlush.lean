import Derived.Test.YtlpmpicmpklaoacGreatDSettle
namespace Go.Proofs.YtlpmpicmpklaoacGreat
open Go.RowKit Go.Maps
set_option linter.unusedVariables false
set_option linter.unusedSimpArgs false
set_option maxRecDepth 20000

/-- the cached writes of the blocks that 'left' does not name have gone down, the first 'kept' of each -/
def St.settle (S : St) (kept : Nat → Nat) (left : Nat → Bool) : St :=
  { S with cache := fun k => if left k then S.cache k else [], med := fun k => if left k then S.med k else if 0 < kept k then some ((S.cache k).getD (kept k - 1) []) else S.med k }

structure FInv (w wr : World) (L : Lay) (r : Nat) (S : St) (kept : Nat → Nat) (left : Lit → Bool) (cnt : Nat) (A : Nat → Value) (D : DataW Value) : Prop where
  rg : wr.ranges Tryz.prog 3 Rv L.cb r 8192 D left cnt
  co : Core wr L A D (S.settle kept fun k => left (kL k))
  lf : ∀ kl, left kl = true → has D kl = true
  gr : Grow w wr L.U L.U

theorem FInv.start {w wr : World} {L : Lay} {S : St} {kept : Nat → Nat} {A : Nat → Value} {D : DataW Value} {r : Nat} (hc : Core wr L A D S) (hrg : wr.ranges Tryz.prog 3 Rv L.cb r 8192 D (Maps.has D) (Maps.size D)) (hg : Grow w wr L.U L.U)
    (hk0 : ∀ k, k < S.nb → S.cache k = [] → kept k = 0) : FInv w wr L r S kept (Maps.has D) (Maps.size D) A D := by
  refine ⟨hrg, hc.ext rfl rfl rfl rfl rfl rfl rfl rfl (fun k hk => ?_) (fun k hk => ?_), fun _ h => h, hg⟩
  · by_cases h : has D (kL k) = true
    · simp [St.settle, h]
    · have h' : S.cache k = [] := by
        by_cases e : S.cache k = []
        · exact e
        · exact absurd ((hc.hasK k hk).2 e) h
      simp [St.settle, h, hk0 k hk h']
  · by_cases h : has D (kL k) = true
    · simp [St.settle, h]
    · have h' : S.cache k = [] := by
        by_cases e : S.cache k = []
        · exact e
        · exact absurd ((hc.hasK k hk).2 e) h
      simp [St.settle, h, h']

theorem kL_same (j k : Nat) : (kL j).sameKey (kL k) = decide (j = k) := by
  by_cases e : j = k
  · subst e; simp [WideAt.sameKey_self (kL_key' j)]
  · rw [Maps.sameKey_ne (fun h => e (kL_inj h))]; simp [e]

theorem FInv.step {w wr w2 : World} {L : Lay} {S : St} {kept : Nat → Nat} {left : Lit → Bool} {cnt cnt' : Nat} {A A' : Nat → Value} {D : DataW Value} {r k : Nat} (h : FInv w wr L r S kept left cnt A D) (hk : k < S.nb) (hl : left (kL k) = true)
    (hrg : w2.ranges Tryz.prog 3 Rv L.cb r 8192 (D.del (kL k)) (fun z => left z && !z.sameKey (kL k)) cnt') (hc : Core w2 L A' (D.del (kL k)) ((S.settle kept fun k => left (kL k)).settle1 k (kept k))) (hg : Grow w w2 L.U L.U) :
    FInv w w2 L r S kept (fun z => left z && !z.sameKey (kL k)) cnt' A' (D.del (kL k)) := by
  refine ⟨hrg, hc.ext ?_ ?_ ?_ ?_ ?_ ?_ ?_ ?_ (fun j hj => ?_) (fun j hj => ?_), fun kl hkl => ?_, hg⟩
  · simp only [St.settle1, St.dropped]; split <;> rfl
  · simp only [St.settle1, St.dropped]; split <;> rfl
  · simp only [St.settle1, St.dropped]; split <;> rfl
  · simp only [St.settle1, St.dropped]; split <;> rfl
  · simp only [St.settle1, St.dropped]; split <;> rfl
  · simp only [St.settle1, St.dropped]; split <;> rfl
  · simp only [St.settle1, St.dropped]; split <;> rfl
  · simp only [St.settle1, St.dropped]; split <;> rfl
  · by_cases e : j = k
    · subst e
      by_cases h0 : 0 < kept j
      · simp [St.settle, St.settle1, St.dropped, St.laid, kL_same, h0, hl, updF]
      · simp [St.settle, St.settle1, St.dropped, St.laid, kL_same, h0, hl, updF]
    · by_cases h0 : 0 < kept k
      · simp [St.settle, St.settle1, St.dropped, St.laid, kL_same, h0, e, updF]
      · simp [St.settle, St.settle1, St.dropped, St.laid, kL_same, h0, e, updF]
  · by_cases e : j = k
    · subst e
      by_cases h0 : 0 < kept j
      · simp [St.settle, St.settle1, St.dropped, St.laid, kL_same, h0, hl, updF]
      · simp [St.settle, St.settle1, St.dropped, St.laid, kL_same, h0, hl, updF]
    · by_cases h0 : 0 < kept k
      · simp [St.settle, St.settle1, St.dropped, St.laid, kL_same, h0, e, updF]
      · simp [St.settle, St.settle1, St.dropped, St.laid, kL_same, h0, e, updF]
  · simp only [Bool.and_eq_true, Bool.not_eq_true'] at hkl
    rw [has_del_other (fun e => by rw [e, WideAt.sameKey_self (kL_key' k)] at hkl; simp at hkl)]
    exact h.lf kl hkl.1

def St.allDown (S : St) (kept : Nat → Nat) : St := { S with cache := fun _ => [], med := fun k => if 0 < kept k then some ((S.cache k).getD (kept k - 1) []) else S.med k }

theorem FInv.done {w wr : World} {L : Lay} {S : St} {kept : Nat → Nat} {left : Lit → Bool} {cnt : Nat} {A : Nat → Value} {D : DataW Value} {r : Nat} (h : FInv w wr L r S kept left cnt A D) (hl : ∀ kl, left kl = false) : Rep wr L (S.allDown kept) :=
  ⟨A, D, h.rg.owns, h.co.ext rfl rfl rfl rfl rfl rfl rfl rfl (fun k hk => by simp [St.settle, St.allDown, hl]) (fun k hk => by simp [St.settle, St.allDown, hl])⟩

/-- what comes out of the map: a block and its cached writes -/
theorem FInv.come {w wr : World} {L : Lay} {S : St} {kept : Nat → Nat} {left : Lit → Bool} {cnt : Nat} {A : Nat → Value} {D : DataW Value} {r : Nat} (h : FInv w wr L r S kept left cnt A D) {x : Int} {c : Value} {kl : Lit} {y : DataW Value × List MemPlace}
    (hkey : keyOf Tryz.prog 3 (.int .i64 x) = some kl) (hlk : left kl = true) (hv : Rv c = some y) (hat : ∀ zd, D.atKey kl zd = y.1) : ∃ k a cp, k < S.nb ∧ x = (k : Int) ∧ kl = kL k ∧ c = .slice a (S.cache k).length cp := by
  obtain ⟨x', ex, rfl, hwx⟩ := Maps.keyOf_int_inv Tryz.underlying3 hkey
  cases ex
  obtain ⟨k, hk, e⟩ := h.co.keys _ (h.lf _ hlk)
  have hx : x = (k : Int) := by simpa [kL] using e
  have e2 := hat (.held nilS)
  rw [e, h.co.at_ k hk] at e2
  simp only [Rv, Option.some.injEq] at hv
  rw [← hv] at e2
  simp only [DataW.held.injEq] at e2
  obtain ⟨a, cp, ef⟩ := (h.co.row k hk).form
  refine ⟨k, a, cp, hk, hx, e, ?_⟩
  rw [← e2, ef]
  have : (S.settle kept fun k => left (kL k)).cache k = S.cache k := by
    rw [e] at hlk
    simp [St.settle, hlk]
  rw [this]

/-- the loop's step, in the disk's words -/
theorem wpList_nextF {ops : Array Oper} {rest : List Oper} {o : Oper} {a : Act} {Q : Exit → Act → World → Prop} {w wr : World} {L : Lay} {S : St} {kept : Nat → Nat} {left : Lit → Bool} {cnt : Nat} {A : Nat → Value} {D : DataW Value} {r : Nat} (hgd : o.guard = none) (it : Operand) (hop : o.op = Op.next it false)
    (hit : a.eval it = .pointer (some ⟨r, 0, none⟩)) (h : FInv w wr L r S kept left cnt A D)
    (hDone : Hid (∀ kl, left kl = false) → wpList Tryz.prog ops Q rest (a.put o.dst (.tuple #[.bool false])) wr)
    (hMore : ∀ (k : Nat) (ad : Option Addr) (cp : Nat) (w' : World) (cnt' : Nat), k < S.nb → Hid (left (kL k) = true) → Hid (w'.ranges Tryz.prog 3 Rv L.cb r 8192 D (fun z => left z && !z.sameKey (kL k)) cnt') → Hid (cnt' < cnt) → Hid (wr.grownBy w' (some r)) →
      (Instr.entry (.pointer (some ⟨r, 0, none⟩))).run Tryz.prog w' = .ok (.tuple #[.int .i64 (k : Int), .slice ad (S.cache k).length cp]) w' → wpList Tryz.prog ops Q rest (a.put o.dst (.tuple #[.bool true, .int .i64 (k : Int), .slice ad (S.cache k).length cp])) w') :
    wpList Tryz.prog ops Q (o :: rest) a wr := by
  refine wpList_next_ranges _ hgd it hop 3 kInt Rv (Value.int .i64) id (fun key kl hkey => by obtain ⟨x, rfl, _⟩ := Maps.keyOf_int_inv Tryz.underlying3 hkey; exact ⟨x, rfl⟩) (fun v y _ => ⟨v, rfl⟩) L.cb r 8192 D left cnt hit h.rg (fun _ hl => hDone hl) ?_
  intro x c kl y w2 cnt2 hkey hlk hv hat hrg2 hlt hg2 hs2 hen
  obtain ⟨k, ad, cp, hk, rfl, rfl, rfl⟩ := h.come hkey hlk hv hat
  exact hMore k ad cp w2 cnt2 hk hlk hrg2 hlt hg2 hen

theorem FInv.turned {w wr w1 : World} {L : Lay} {S : St} {kept : Nat → Nat} {left : Lit → Bool} {cnt : Nat} {A : Nat → Value} {D : DataW Value} {r : Nat} (h : FInv w wr L r S kept left cnt A D) (hr : ¬ L.U r) (hrw : w.heap.size ≤ r) (hg : wr.grownBy w1 (some r)) : Core w1 L A D (S.settle kept fun k => left (kL k)) ∧ Grow w w1 L.U L.U :=
  ⟨h.co.kept (fun b hb => hg.block b (h.co.uLt b hb) (fun e => hr (by simp only [Option.some.injEq] at e; exact e ▸ hb))) hg.size,
   ⟨hg.os.trans h.gr.os, hg.tape.trans h.gr.tape, hg.output.trans h.gr.output, Nat.le_trans h.gr.size hg.size, fun b hb hu => (hg.block b (Nat.lt_of_lt_of_le hb h.gr.size) (fun e => by simp only [Option.some.injEq] at e; omega)).trans (h.gr.keep b hb hu), fun _ _ h => h, fun _ h => h⟩⟩
theorem Grow.two {w w1 w2 : World} {L : Lay} {A : Nat → Value} {D : DataW Value} {S : St} (h : Grow w w1 L.U L.U) (hc : Core w1 L A D S) (ht : Two L w1 w2) : Grow w w2 L.U L.U :=
  h.trans ⟨ht.os, ht.tape, ht.output, by rw [ht.size]; exact Nat.le_refl _, fun b hb hu => ht.keep b (fun e => hu (e ▸ hc.uM)) (fun e => hu (e ▸ hc.uC)), fun _ _ h => h, fun _ h => h⟩
theorem Grow.drew {w w1 : World} {U U' : Nat → Prop} (h : Grow w w1 U U') : Grow w w1.drew U U' := ⟨h.os, h.tape, h.output, h.size, h.keep, h.new, h.sup⟩

def St.flush (S : St) : St := if S.stepOk then (S.step.allDown fun k => (S.cache k).length).addFl else S.step

set_option maxHeartbeats 1000000 in
theorem Flush_any {w : World} {L : Lay} {S : St} (hR : Rep w L S) :
    Calls Tryz.prog 57 #[PD L] w fun e w' => e = .returned (if S.stepOk then .nilIface else .iface 45 (.int .i64 22)) ∧ Rep w' L S.flush ∧ Grow w w' L.U L.U := by
  have HR := hide hR
  clear hR
  unfold PD
  cases hok : S.stepOk
  · have e1 : S.flush = S.step := by simp [St.flush, hok]
    rw [e1]
    clear e1
    go_enter Tryz.func57, Tryz.ntmps57
    go_wp2_with (go_at_call 84; refine (step_any HR.out).mono ?_; rintro e w1 ⟨rfl, hR1, hG1, -, hk1⟩; rw [hok])
    go_ret
    exact ⟨rfl, hR1, hG1⟩
  · have e1 : S.flush = (S.step.allDown fun k => (S.cache k).length).addFl := by simp [St.flush, hok]
    rw [e1]
    clear e1
    go_enter Tryz.func57, Tryz.ntmps57
    go_wp2_with (first
      | (go_at_call 84; refine (step_any HR.out).mono ?_; rintro e w1 ⟨rfl, ⟨A, D, ho1, hc1⟩, hG1, -, hk1⟩; rw [hok]; have c3 : w1.cell? ⟨L.p, 3, none⟩ = some (.map (some L.cb)) := dcell hc1.hp 3)
      | (at_range; refine wpList_range_own _ rfl _ 99 rfl 3 33 kInt Tryz.underlying99 Rv L.cb 8192 D rfl ho1 ?_; intro w0 hrg0 hg0 hs0))
    go_frame
    obtain ⟨r, hr⟩ : ∃ r, r = w1.heap.size := ⟨_, rfl⟩
    rw [← hr] at hrg0 ⊢
    have hrw : w.heap.size ≤ r := by rw [hr]; exact hG1.size
    have hrU : ¬ L.U r := fun hu => by have := hc1.uLt r hu; omega
    have hc0 : Core w0 L A D S.step := hc1.kept (fun b hb => hg0.block b (hc1.uLt b hb) (by simp)) hg0.size
    have hG0 : Grow w w0 L.U L.U := hG1.trans ⟨hg0.os, hg0.tape, hg0.output, hg0.size, fun b hb _ => hg0.block b hb (by simp), fun _ _ h => h, fun _ h => h⟩
    have START := hide (FInv.start (kept := fun k => (S.cache k).length) hc0 hrg0 hG0 (fun k hk h0 => by rw [step_cache] at h0; simp [h0]))
    clear hrg0 hg0 hs0 hc0 hG0 c3 hc1 ho1 hk1 hG1 hr
    go_loopw [14] (fun _ wr => ∃ left cnt A D, FInv w wr L r S.step (fun k => (S.cache k).length) left cnt A D) (fun _ wr => wr.rangeLeft L.cb r)
    case atStart => exact ⟨_, _, _, _, START.out⟩
    case round =>
      clear START
      obtain ⟨left, cnt, A, D, hI⟩ := hrel
      have HI := hide hI
      have hrg := hI.rg
      clear hI
      go_wp2_with (at_next; refine wpList_nextF rfl _ rfl rfl HI.out ?_ ?_)
      · intro hl0
        have hRd := HI.out.done hl0.out
        have hGd := HI.out.gr
        have c9 : wr.cell? ⟨L.p, 9, none⟩ = some (.int .i64 S.step.fl) := rcell (U' := L.U) hRd 9
        have f9 := rfree (L := L) (U' := L.U) hRd 9
        have HRd := hide hRd
        clear hrg HI hRd
        go_wp2
        go_ret
        obtain ⟨h1, h2, h3⟩ := HRd.out.store 9 (.int .i64 (wrap64 (S.step.fl + 1))) S.step.off S.step.fuse S.step.rd S.step.wr S.step.th (wrap64 (S.step.fl + 1)) HRd.out.fz rfl
        exact ⟨rfl, h1, hGd.trans h2⟩
      · intro k a cp w2 cnt2 hk hlk0 hrg2 hlt hg2 hen
        have hlk := hlk0.out
        obtain ⟨hc2, hG2⟩ := HI.out.turned hrU hrw hg2.out
        have hkn : k < S.nb := by rw [step_nb] at hk; exact hk
        have hch : S.step.cache k = S.cache k := by rw [step_cache]
        rw [hch] at hen ⊢
        have hcl : (S.cache k).length ≤ ((S.step.settle (fun k => (S.cache k).length) fun k => left (kL k)).cache k).length := by simp [St.settle, hlk, step_cache]
        have hrgd : w2.drew.ranges Tryz.prog 3 Rv L.cb r 8192 D (fun z => left z && !z.sameKey (kL k)) cnt2 := hrg2.out
        have HSET := hide (settle_any (w := w2.drew) (n := (S.cache k).length) hrgd (hc2.kept (fun _ _ => rfl) (Nat.le_refl _)) (k := k) hk hcl hrU)
        have c2 : w2.drew.cell? ⟨L.p, 2, none⟩ = some (medV L (S.step.settle (fun k => (S.cache k).length) fun k => left (kL k))) := dcell (w := w2.drew) hc2.hp 2
        have c3 : w2.drew.cell? ⟨L.p, 3, none⟩ = some (.map (some L.cb)) := dcell (w := w2.drew) hc2.hp 3
        have HKp : Hid (∀ w', Two L w2.drew w' → ∀ i, w'.cell? ⟨L.p, i, none⟩ = w2.drew.cell? ⟨L.p, i, none⟩) := hide fun w' ht i => World.cell?_of_block (ht.keep L.p (fun e => by
          obtain ⟨ms, h1, _⟩ := hc2.hm
          have h2 := hc2.hp
          rw [e, h1] at h2
          simp at h2) (fun e => by
          obtain ⟨es, c, h, _⟩ := hrgd.owns
          have h2 : w2.drew.heap[L.p]? = _ := hc2.hp
          rw [e, h] at h2
          simp at h2))
        have HC2 := hide hc2
        have HG2 := hide hG2
        have HRGo := hide hrg
        clear hc2 hG2 hg2 hrg2 hrg hlk hcl hch hrgd
        generalize medV L (S.step.settle (fun k => (S.cache k).length) fun k => left (kL k)) = mv at *
        generalize hN : (S.cache k).length = N at *
        have HN := hide hN
        clear hN
        go_wp2_with fail
        go_region_held3 (fun w' => w'.cell? ⟨L.p, 2, none⟩ = some mv ∧ w'.cell? ⟨L.p, 3, none⟩ = some (.map (some L.cb))) (first | (constructor <;> assumption) | go_keep)
          (first
            | (go_at_call 85; refine HSET.out.mono ?_; rintro e w' ⟨rfl, A', cnt3, hrg3, hle3, hc3, ht3⟩; have c2' : w'.cell? ⟨L.p, 2, none⟩ = some mv := (HKp.out w' ht3 2).trans c2; have c3' : w'.cell? ⟨L.p, 3, none⟩ = some (.map (some L.cb)) := (HKp.out w' ht3 3).trans c3; have HR3 := hide hrg3; have HL3 := hide hle3; have HC3 := hide hc3; have HT3 := hide ht3; clear hrg3 hle3 hc3 ht3))
        go_wp2
        go_roundw
        case rel =>
          refine ⟨_, _, _, _, HI.out.step hk hlk0.out (cnt' := cnt3) (A' := A') ?_ ?_ ((HG2.out.drew).two (HC2.out.kept (w' := w2.drew) (fun _ _ => rfl) (Nat.le_refl _)) HT3.out)⟩
          · have := HR3.out
            rw [Maps.strike_twice] at this
            exact this
          · rw [HN.out]; exact HC3.out
        case measure =>
          rw [HR3.out.left_eq, HRGo.out.left_eq]
          have h1 := HL3.out
          have h2 := hlt.out
          omega
end Go.Proofs.YtlpmpicmpklaoacGreat
