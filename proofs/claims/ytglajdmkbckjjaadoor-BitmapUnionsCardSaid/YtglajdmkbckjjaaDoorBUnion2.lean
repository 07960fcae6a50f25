import Derived.Test.YtglajdmkbckjjaaDoorBUnion
namespace Go.Proofs.YtglajdmkbckjjaaDoor
open Go.RowKit Go.Shelf
attribute [local go_sem] Oper.semAt_some
set_option linter.unusedVariables false
set_option linter.unusedSimpArgs false
set_option maxRecDepth 20000

/-- a list of lists of words -/
def LSl (w : World) (v : Value) (ls : List (List Nat)) : Prop :=
  ∃ a cap, v = .slice a ls.length cap ∧ ls.length ≤ cap ∧ cap ≤ maxLen ∧
    (0 < ls.length → ∃ b off, a = some ⟨b, off, none⟩ ∧ ∀ i, i < ls.length → ∃ u, w.cell? ⟨b, off + i, none⟩ = some u ∧ WSl w u (ls.getD i []))
theorem LSl.below {w w' : World} {v : Value} {ls : List (List Nat)} (h : LSl w v ls) (hb : Below w.heap.size w w') : LSl w' v ls := by
  obtain ⟨a, cap, rfl, h1, h2, h5⟩ := h
  refine ⟨a, cap, rfl, h1, h2, fun hp => ?_⟩
  obtain ⟨b, off, rfl, hc⟩ := h5 hp
  refine ⟨b, off, rfl, fun i hi => ?_⟩
  obtain ⟨u, hu, hw⟩ := hc i hi
  exact ⟨u, cell_below hb hu, hw.below hb⟩

/-- the bits of all -/
def orAll (ls : List (List Nat)) : Nat := ls.foldl (fun B l => B ||| valW l) 0
theorem orAll_take {ls : List (List Nat)} {k : Nat} (h : k < ls.length) : orAll (ls.take (k + 1)) = orAll (ls.take k) ||| valW (ls.getD k []) := by
  unfold orAll
  rw [List.take_succ_eq_append_getElem h, List.foldl_append]
  simp [List.getD, h]
theorem orAll_lt {n : Nat} : ∀ (ls : List (List Nat)), (∀ l ∈ ls, valW l < 2 ^ n) → orAll ls < 2 ^ n := by
  intro ls
  have key : ∀ (ls : List (List Nat)) (B : Nat), B < 2 ^ n → (∀ l ∈ ls, valW l < 2 ^ n) → ls.foldl (fun B l => B ||| valW l) B < 2 ^ n := by
    intro ls
    induction ls with
    | nil => exact fun B hB _ => hB
    | cons l r ih => exact fun B hB h => ih _ (or_lt hB (h l List.mem_cons_self)) fun x hx => h x (List.mem_cons_of_mem _ hx)
  exact key ls 0 (Nat.two_pow_pos _)
/-- what has been laid when the runs up to s have come -/
def lowU (B V s : Nat) : Nat := B ||| V % 2 ^ s
theorem lowU_zero (B V : Nat) : lowU B V 0 = B := by simp [lowU, Nat.mod_one]
theorem lowU_step {B V n s i e : Nat} (h1 : s ≤ i) (h2 : i ≤ e) (hz : ∀ j, s ≤ j → j < i → V.testBit j = false) (ho : ∀ j, i ≤ j → j < e → V.testBit j = true) : setR (lowU B V s) i e = lowU B V e := by
  apply Nat.eq_of_testBit_eq
  intro j
  unfold lowU
  rw [testBit_setR, Nat.testBit_or, Nat.testBit_or, Nat.testBit_mod_two_pow, Nat.testBit_mod_two_pow]
  by_cases q1 : j < s
  · have : ¬ i ≤ j := by omega
    have : j < e := by omega
    simp [q1, *]
  · by_cases q2 : j < i
    · have a1 : ¬ i ≤ j := by omega
      have a2 := hz j (by omega) q2
      have a3 : j < e := by omega
      simp [q1, a1, a2, a3]
    · have a1 : i ≤ j := by omega
      by_cases q3 : j < e
      · simp [q1, a1, q3, ho j a1 q3]
      · simp [q1, a1, q3]
theorem lowU_end {B V n s : Nat} (hV : V < 2 ^ n) (hz : ∀ j, s ≤ j → j < n → V.testBit j = false) : lowU B V s = B ||| V := by
  unfold lowU
  congr 1
  apply Nat.mod_eq_of_lt
  apply lt_of_bits
  intro i hi
  by_cases q : i < n
  · exact hz i hi q
  · exact bit_ge hV (by omega)
theorem lowU_lt {B V n s : Nat} (hB : B < 2 ^ n) (hV : V < 2 ^ n) : lowU B V s < 2 ^ n := or_lt hB (Nat.lt_of_le_of_lt (Nat.mod_le _ _) hV)

/-- in the loop over the runs of one list -/
structure UInv (w W : World) (N ub rb : Nat) (Lu Lm : BL) (n B V : Nat) (ds : List Deferred) : Prop where
  ru : BRep W Lu n B
  rm : BRep W Lm n V
  tab : TabAt W
  bel : Below N w W
  b0 : W.heap[ub]? = some (.cells #[PB Lu] 25 (0, 0))
  b1 : W.heap[rb]? = some (.cells #[PB Lm] 25 (0, 0))
  ms : MarksAt N W ds
theorem MarksAt.own {N K : Nat} {W W' : World} {row : Option Nat} (hg : W.grownBy W' row) (hr : ∀ r, row = some r → K ≤ r ∧ ∃ o : Obj, W.heap[r]? = some o ∧ o.isCells = false) :
    ∀ {ds : List Deferred}, MarksAt N W ds → (∀ d ∈ ds, ∀ D, d.target = .collected D → D < K) → MarksAt N W' ds
  | [], _, _ => ⟨trivial, fun _ h => by cases h⟩
  | d :: ds, h, hK => by
    obtain ⟨⟨⟨E, rfl, hE, hrr⟩, hm⟩, hN⟩ := h
    have ih := MarksAt.own hg hr (ds := ds) ⟨hm, fun d hd => hN d (List.mem_cons_of_mem _ hd)⟩ fun d hd => hK d (List.mem_cons_of_mem _ hd)
    have hEK := hK _ List.mem_cons_self E rfl
    refine ⟨⟨⟨E, rfl, ?_, hrr⟩, ih.1⟩, hN⟩
    rw [hg.block E (Array.getElem?_eq_some_iff.1 hE).1 (fun e => by have := (hr E e.symm).1; omega)]
    exact hE
theorem UInv.own {w W W' : World} {row : Option Nat} {N K ub rb : Nat} {Lu Lm : BL} {n B V : Nat} {ds : List Deferred} (h : UInv w W N ub rb Lu Lm n B V ds) (hN : N ≤ K) (h0 : 0 < K) (hK : ∀ d ∈ ds, ∀ D, d.target = .collected D → D < K) (hNW : N ≤ W.heap.size) (hg : W.grownBy W' row) (hr : ∀ r, row = some r → K ≤ r ∧ ∃ o : Obj, W.heap[r]? = some o ∧ o.isCells = false) : UInv w W' N ub rb Lu Lm n B V ds :=
  ⟨own_rep h.ru hg hr, own_rep h.rm hg hr, h.tab.of (hg.block _ h.tab.lt (fun e => by have := (hr _ e.symm).1; omega)), h.bel.grown hg hNW (fun k e => by have := (hr k e).1; omega), own_blk h.b0 hg hr, own_blk h.b1 hg hr, h.ms.own hg hr hK⟩
theorem KeepsFrom.ofChg {L : BL} {n B : Nat} {W W' : World} (h : Chg L.U W W') (hR : BRep W L n B) (K : Nat) : KeepsFrom K W W' := ⟨h.size, fun b o _ hb hc => (h.keep b (Array.getElem?_eq_some_iff.1 hb).1 (fun hu => by
  rcases hu with rfl | rfl | rfl
  · rw [hR.hp] at hb; cases hb; simp [Obj.isCells] at hc
  · rw [hR.hlo] at hb; cases hb; simp [Obj.isCells] at hc
  · rw [hR.hhi] at hb; cases hb; simp [Obj.isCells] at hc)).trans hb⟩
theorem UInv.set {w W W' : World} {N ub rb : Nat} {Lu Lm : BL} {n B B' V : Nat} {ds : List Deferred} (h : UInv w W N ub rb Lu Lm n B V ds) (hr : BRep W' Lu n B') (hc : Chg Lu.U W W') (hNu : ∀ b, Lu.U b → N ≤ b) (hg : 0 < N) (hne : ∀ b, Lm.U b → ¬ Lu.U b) (hub : ¬ Lu.U ub) (hrb : ¬ Lu.U rb) (hNW : N ≤ W.heap.size) : UInv w W' N ub rb Lu Lm n B' V ds := by
  have k : ∀ {b o}, W.heap[b]? = some o → ¬ Lu.U b → W'.heap[b]? = some o := fun hb hu => (hc.keep _ (Array.getElem?_eq_some_iff.1 hb).1 hu).trans hb
  exact ⟨hr, h.rm.chg hc hne, h.tab.of (hc.keep _ h.tab.lt (fun hu => by have := hNu _ hu; omega)), h.bel.trans (hc.below hNW hNu), k h.b0 hub, k h.b1 hrb, Marks.keeps (KeepsFrom.ofChg hc h.ru N) h.ms⟩
end Go.Proofs.YtglajdmkbckjjaaDoor
