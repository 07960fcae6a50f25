import Derived.Test.YtepgiomgkgfioaaDoorDSettle
namespace Go.Proofs.YtepgiomgkgfioaaDoor.K
open Go.RowKit Go.Maps
set_option linter.unusedVariables false
set_option linter.unusedSimpArgs false
set_option maxRecDepth 20000

/-- the cached writes of the blocks that 'left' does not name have gone down, the first 'kept' of each -/
def St.settle (S : St) (kept : Nat → Nat) (left : Nat → Bool) : St :=
  { S with cache := fun k => if left k then S.cache k else [], med := fun k => if left k then S.med k else if 0 < kept k then some ((S.cache k).getD (kept k - 1) []) else S.med k }

structure FInv (w wr : World) (L : Lay) (r : Nat) (S : St) (kept : Nat → Nat) (left : Lit → Bool) (cnt : Nat) (A : Nat → Value) (D : DataW Value) : Prop where
  rg : wr.ranges Tryd.prog 3 Rv L.cb r 8192 D left cnt
  co : Core wr L A D (S.settle kept fun k => left (kL k))
  lf : ∀ kl, left kl = true → has D kl = true
  gr : Grow w wr L.U L.U

theorem FInv.start {w wr : World} {L : Lay} {S : St} {kept : Nat → Nat} {A : Nat → Value} {D : DataW Value} {r : Nat} (hc : Core wr L A D S) (hrg : wr.ranges Tryd.prog 3 Rv L.cb r 8192 D (Maps.has D) (Maps.size D)) (hg : Grow w wr L.U L.U)
    (hk0 : ∀ k, k < S.nb → S.cache k = [] → kept k = 0) : FInv w wr L r S kept (Maps.has D) (Maps.size D) A D := by
  refine ⟨hrg, hc.ext rfl rfl rfl rfl rfl rfl rfl rfl (fun k hk => ?_) (fun k hk => ?_), fun _ h => h, hg⟩
  · by_cases h : has D (kL k) = true
    · simp [St.settle, h]
    · have h' : S.cache k = [] := by
        by_cases e : S.cache k = []
        · exact e
        · exact absurd ((hc.hasK k hk).2 e) h
      simp [St.settle, h, hk0 k hk h']
  · by_cases h : has D (kL k) = true
    · simp [St.settle, h]
    · have h' : S.cache k = [] := by
        by_cases e : S.cache k = []
        · exact e
        · exact absurd ((hc.hasK k hk).2 e) h
      simp [St.settle, h, h']

theorem kL_same (j k : Nat) : (kL j).sameKey (kL k) = decide (j = k) := by
  by_cases e : j = k
  · subst e; simp [WideAt.sameKey_self (kL_key' j)]
  · rw [Maps.sameKey_ne (fun h => e (kL_inj h))]; simp [e]

theorem FInv.step {w wr w2 : World} {L : Lay} {S : St} {kept : Nat → Nat} {left : Lit → Bool} {cnt cnt' : Nat} {A A' : Nat → Value} {D : DataW Value} {r k : Nat} (h : FInv w wr L r S kept left cnt A D) (hk : k < S.nb) (hl : left (kL k) = true)
    (hrg : w2.ranges Tryd.prog 3 Rv L.cb r 8192 (D.del (kL k)) (fun z => left z && !z.sameKey (kL k)) cnt') (hc : Core w2 L A' (D.del (kL k)) ((S.settle kept fun k => left (kL k)).settle1 k (kept k))) (hg : Grow w w2 L.U L.U) :
    FInv w w2 L r S kept (fun z => left z && !z.sameKey (kL k)) cnt' A' (D.del (kL k)) := by
  refine ⟨hrg, hc.ext ?_ ?_ ?_ ?_ ?_ ?_ ?_ ?_ (fun j hj => ?_) (fun j hj => ?_), fun kl hkl => ?_, hg⟩
  · simp only [St.settle1, St.dropped]; split <;> rfl
  · simp only [St.settle1, St.dropped]; split <;> rfl
  · simp only [St.settle1, St.dropped]; split <;> rfl
  · simp only [St.settle1, St.dropped]; split <;> rfl
  · simp only [St.settle1, St.dropped]; split <;> rfl
  · simp only [St.settle1, St.dropped]; split <;> rfl
  · simp only [St.settle1, St.dropped]; split <;> rfl
  · simp only [St.settle1, St.dropped]; split <;> rfl
  · by_cases e : j = k
    · subst e
      by_cases h0 : 0 < kept j
      · simp [St.settle, St.settle1, St.dropped, St.laid, kL_same, h0, hl, updF]
      · simp [St.settle, St.settle1, St.dropped, St.laid, kL_same, h0, hl, updF]
    · by_cases h0 : 0 < kept k
      · simp [St.settle, St.settle1, St.dropped, St.laid, kL_same, h0, e, updF]
      · simp [St.settle, St.settle1, St.dropped, St.laid, kL_same, h0, e, updF]
  · by_cases e : j = k
    · subst e
      by_cases h0 : 0 < kept j
      · simp [St.settle, St.settle1, St.dropped, St.laid, kL_same, h0, hl, updF]
      · simp [St.settle, St.settle1, St.dropped, St.laid, kL_same, h0, hl, updF]
    · by_cases h0 : 0 < kept k
      · simp [St.settle, St.settle1, St.dropped, St.laid, kL_same, h0, e, updF]
      · simp [St.settle, St.settle1, St.dropped, St.laid, kL_same, h0, e, updF]
  · simp only [Bool.and_eq_true, Bool.not_eq_true'] at hkl
    rw [has_del_other (fun e => by rw [e, WideAt.sameKey_self (kL_key' k)] at hkl; simp at hkl)]
    exact h.lf kl hkl.1

def St.allDown (S : St) (kept : Nat → Nat) : St := { S with cache := fun _ => [], med := fun k => if 0 < kept k then some ((S.cache k).getD (kept k - 1) []) else S.med k }

theorem FInv.done {w wr : World} {L : Lay} {S : St} {kept : Nat → Nat} {left : Lit → Bool} {cnt : Nat} {A : Nat → Value} {D : DataW Value} {r : Nat} (h : FInv w wr L r S kept left cnt A D) (hl : ∀ kl, left kl = false) : Rep wr L (S.allDown kept) :=
  ⟨A, D, h.rg.owns, h.co.ext rfl rfl rfl rfl rfl rfl rfl rfl (fun k hk => by simp [St.settle, St.allDown, hl]) (fun k hk => by simp [St.settle, St.allDown, hl])⟩

/-- what comes out of the map: a block and its cached writes -/
theorem FInv.come {w wr : World} {L : Lay} {S : St} {kept : Nat → Nat} {left : Lit → Bool} {cnt : Nat} {A : Nat → Value} {D : DataW Value} {r : Nat} (h : FInv w wr L r S kept left cnt A D) {x : Int} {c : Value} {kl : Lit} {y : DataW Value × List MemPlace}
    (hkey : keyOf Tryd.prog 3 (.int .i64 x) = some kl) (hlk : left kl = true) (hv : Rv c = some y) (hat : ∀ zd, D.atKey kl zd = y.1) : ∃ k a cp, k < S.nb ∧ x = (k : Int) ∧ kl = kL k ∧ c = .slice a (S.cache k).length cp := by
  obtain ⟨x', ex, rfl, hwx⟩ := Maps.keyOf_int_inv Tryd.underlying3 hkey
  cases ex
  obtain ⟨k, hk, e⟩ := h.co.keys _ (h.lf _ hlk)
  have hx : x = (k : Int) := by simpa [kL] using e
  have e2 := hat (.held nilS)
  rw [e, h.co.at_ k hk] at e2
  simp only [Rv, Option.some.injEq] at hv
  rw [← hv] at e2
  simp only [DataW.held.injEq] at e2
  obtain ⟨a, cp, ef⟩ := (h.co.row k hk).form
  refine ⟨k, a, cp, hk, hx, e, ?_⟩
  rw [← e2, ef]
  have : (S.settle kept fun k => left (kL k)).cache k = S.cache k := by
    rw [e] at hlk
    simp [St.settle, hlk]
  rw [this]

/-- the loop's step, in the disk's words -/
theorem wpList_nextF {ops : Array Oper} {rest : List Oper} {o : Oper} {a : Act} {Q : Exit → Act → World → Prop} {w wr : World} {L : Lay} {S : St} {kept : Nat → Nat} {left : Lit → Bool} {cnt : Nat} {A : Nat → Value} {D : DataW Value} {r : Nat} (hgd : o.guard = none) (it : Operand) (hop : o.op = Op.next it false)
    (hit : a.eval it = .pointer (some ⟨r, 0, none⟩)) (h : FInv w wr L r S kept left cnt A D)
    (hDone : Hid (∀ kl, left kl = false) → wpList Tryd.prog ops Q rest (a.put o.dst (.tuple #[.bool false])) wr)
    (hMore : ∀ (k : Nat) (ad : Option Addr) (cp : Nat) (w' : World) (cnt' : Nat), k < S.nb → Hid (left (kL k) = true) → Hid (w'.ranges Tryd.prog 3 Rv L.cb r 8192 D (fun z => left z && !z.sameKey (kL k)) cnt') → Hid (cnt' < cnt) → Hid (wr.grownBy w' (some r)) →
      (Instr.entry (.pointer (some ⟨r, 0, none⟩))).run Tryd.prog w' = .ok (.tuple #[.int .i64 (k : Int), .slice ad (S.cache k).length cp]) w' → wpList Tryd.prog ops Q rest (a.put o.dst (.tuple #[.bool true, .int .i64 (k : Int), .slice ad (S.cache k).length cp])) w') :
    wpList Tryd.prog ops Q (o :: rest) a wr := by
  refine wpList_next_ranges _ hgd it hop 3 kInt Rv (Value.int .i64) id (fun key kl hkey => by obtain ⟨x, rfl, _⟩ := Maps.keyOf_int_inv Tryd.underlying3 hkey; exact ⟨x, rfl⟩) (fun v y _ => ⟨v, rfl⟩) L.cb r 8192 D left cnt hit h.rg (fun _ hl => hDone hl) ?_
  intro x c kl y w2 cnt2 hkey hlk hv hat hrg2 hlt hg2 hs2 hen
  obtain ⟨k, ad, cp, hk, rfl, rfl, rfl⟩ := h.come hkey hlk hv hat
  exact hMore k ad cp w2 cnt2 hk hlk hrg2 hlt hg2 hen

theorem FInv.turned {w wr w1 : World} {L : Lay} {S : St} {kept : Nat → Nat} {left : Lit → Bool} {cnt : Nat} {A : Nat → Value} {D : DataW Value} {r : Nat} (h : FInv w wr L r S kept left cnt A D) (hr : ¬ L.U r) (hrw : w.heap.size ≤ r) (hg : wr.grownBy w1 (some r)) : Core w1 L A D (S.settle kept fun k => left (kL k)) ∧ Grow w w1 L.U L.U :=
  ⟨h.co.kept (fun b hb => hg.block b (h.co.uLt b hb) (fun e => hr (by simp only [Option.some.injEq] at e; exact e ▸ hb))) hg.size,
   ⟨hg.os.trans h.gr.os, hg.tape.trans h.gr.tape, hg.output.trans h.gr.output, Nat.le_trans h.gr.size hg.size, fun b hb hu => (hg.block b (Nat.lt_of_lt_of_le hb h.gr.size) (fun e => by simp only [Option.some.injEq] at e; omega)).trans (h.gr.keep b hb hu), fun _ _ h => h, fun _ h => h⟩⟩
theorem Grow.two {w w1 w2 : World} {L : Lay} {A : Nat → Value} {D : DataW Value} {S : St} (h : Grow w w1 L.U L.U) (hc : Core w1 L A D S) (ht : Two L w1 w2) : Grow w w2 L.U L.U :=
  h.trans ⟨ht.os, ht.tape, ht.output, by rw [ht.size]; exact Nat.le_refl _, fun b hb hu => ht.keep b (fun e => hu (e ▸ hc.uM)) (fun e => hu (e ▸ hc.uC)), fun _ _ h => h, fun _ h => h⟩
theorem Grow.drew {w w1 : World} {U U' : Nat → Prop} (h : Grow w w1 U U') : Grow w w1.drew U U' := ⟨h.os, h.tape, h.output, h.size, h.keep, h.new, h.sup⟩

def St.flush (S : St) : St := if S.stepOk then (S.step.allDown fun k => (S.cache k).length).addFl else S.step

end Go.Proofs.YtepgiomgkgfioaaDoor.K
