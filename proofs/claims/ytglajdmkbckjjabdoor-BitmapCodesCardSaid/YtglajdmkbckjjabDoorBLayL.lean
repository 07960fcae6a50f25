import Derived.Test.YtglajdmkbckjjabDoorBCopied
namespace Go.Proofs.YtglajdmkbckjjabDoor
open Go.RowKit Go.Shelf
set_option linter.unusedVariables false
set_option linter.unusedSimpArgs false
set_option maxRecDepth 20000

def i64ok (n : Int) : Prop := -9223372036854775808 ≤ n ∧ n ≤ 9223372036854775807
structure ActV where
  kind : Int
  a : Int
  b : Int
structure OpV where
  kind : Int
  sec : Bool
  a : Int
  b : Int
  wv : Value
  wl : List Nat
  bv : Value
  bl : List ActV
  av : Value
  al : List ActV
  again : Bool
/-- a list of acts -/
def ASl (w : World) (v : Value) (l : List ActV) : Prop :=
  ∃ a cap, v = .slice a l.length cap ∧ l.length ≤ cap ∧ cap ≤ maxLen ∧ (∀ s ∈ l, i64ok s.kind ∧ i64ok s.a ∧ i64ok s.b) ∧
    (0 < l.length → ∃ b off, a = some ⟨b, off, none⟩ ∧ ∀ i (h : i < l.length), w.cell? ⟨b, off + i * 3, none⟩ = some (.int .i64 l[i].kind) ∧ w.cell? ⟨b, off + i * 3 + 1, none⟩ = some (.int .i64 l[i].a) ∧ w.cell? ⟨b, off + i * 3 + 2, none⟩ = some (.int .i64 l[i].b))
structure OpOk (w : World) (s : OpV) : Prop where
  w1 : WSl w s.wv s.wl
  w2 : s.wl.length ≤ 17592186044416
  b1 : ASl w s.bv s.bl
  a1 : ASl w s.av s.al
  k : i64ok s.kind
  a : i64ok s.a
  b : i64ok s.b
/-- a script -/
def OSl (w : World) (v : Value) (l : List OpV) : Prop :=
  ∃ a cap, v = .slice a l.length cap ∧ l.length ≤ cap ∧ cap ≤ maxLen ∧ (∀ s ∈ l, OpOk w s) ∧
    (0 < l.length → ∃ b off, a = some ⟨b, off, none⟩ ∧ ∀ i (h : i < l.length),
      w.cell? ⟨b, off + i * 8, none⟩ = some (.int .i64 l[i].kind) ∧ w.cell? ⟨b, off + i * 8 + 1, none⟩ = some (.bool l[i].sec) ∧ w.cell? ⟨b, off + i * 8 + 2, none⟩ = some (.int .i64 l[i].a) ∧ w.cell? ⟨b, off + i * 8 + 3, none⟩ = some (.int .i64 l[i].b) ∧
      w.cell? ⟨b, off + i * 8 + 4, none⟩ = some l[i].wv ∧ w.cell? ⟨b, off + i * 8 + 5, none⟩ = some l[i].bv ∧ w.cell? ⟨b, off + i * 8 + 6, none⟩ = some l[i].av ∧ w.cell? ⟨b, off + i * 8 + 7, none⟩ = some (.bool l[i].again))
theorem cell_below {w w' : World} {b o : Nat} {v : Value} (hb : Below w.heap.size w w') (h : w.cell? ⟨b, o, none⟩ = some v) : w'.cell? ⟨b, o, none⟩ = some v := by
  rw [hb.cell (p := ⟨b, o, none⟩) (World.block_lt_of_cell? w _ h)]; exact h
theorem ASl.below {w w' : World} {v : Value} {l : List ActV} (h : ASl w v l) (hb : Below w.heap.size w w') : ASl w' v l := by
  obtain ⟨a, cap, rfl, h1, h2, h4, h5⟩ := h
  refine ⟨a, cap, rfl, h1, h2, h4, fun hp => ?_⟩
  obtain ⟨b, off, rfl, hc⟩ := h5 hp
  refine ⟨b, off, rfl, fun i hi => ?_⟩
  obtain ⟨q1, q2, q3⟩ := hc i hi
  exact ⟨cell_below hb q1, cell_below hb q2, cell_below hb q3⟩
theorem OpOk.below {w w' : World} {s : OpV} (h : OpOk w s) (hb : Below w.heap.size w w') : OpOk w' s := ⟨h.w1.below hb, h.w2, h.b1.below hb, h.a1.below hb, h.k, h.a, h.b⟩
theorem OSl.below {w w' : World} {v : Value} {l : List OpV} (h : OSl w v l) (hb : Below w.heap.size w w') : OSl w' v l := by
  obtain ⟨a, cap, rfl, h1, h2, h4, h5⟩ := h
  refine ⟨a, cap, rfl, h1, h2, fun s hs => (h4 s hs).below hb, fun hp => ?_⟩
  obtain ⟨b, off, rfl, hc⟩ := h5 hp
  refine ⟨b, off, rfl, fun i hi => ?_⟩
  obtain ⟨q1, q2, q3, q4, q5, q6, q7, q8⟩ := hc i hi
  exact ⟨cell_below hb q1, cell_below hb q2, cell_below hb q3, cell_below hb q4, cell_below hb q5, cell_below hb q6, cell_below hb q7, cell_below hb q8⟩

/-- what a call that changes makes of the bits -/
def setO (n B : Nat) (i : Int) : Nat := if 0 ≤ i ∧ i < n then setR B i.toNat (i.toNat + 1) else B
def clrO (n B : Nat) (i : Int) : Nat := if 0 ≤ i ∧ i < n then clrR B i.toNat (i.toNat + 1) else B
def setRO (n B : Nat) (a c : Int) : Nat := if rgErr n a c = 0 then setR B a.toNat (a.toNat + c.toNat) else B
def clrRO (n B : Nat) (a c : Int) : Nat := if rgErr n a c = 0 then clrR B a.toNat (a.toNat + c.toNat) else B
def mrgO (n B : Nat) (l : List Nat) : Nat := if cwErr n l = 0 then B ||| valW l else B
theorem rgErr_zero {n : Nat} {a c : Int} (h : rgErr n a c = 0) : 0 ≤ a ∧ 0 ≤ c ∧ a.toNat + c.toNat ≤ n ∧ a = (a.toNat : Int) ∧ c = (c.toNat : Int) := by
  unfold rgErr at h
  by_cases h1 : c < 0
  · rw [if_pos h1] at h; cases h
  · rw [if_neg h1] at h
    by_cases h2 : a < 0 ∨ (n : Int) < a ∨ (n : Int) - a < c
    · rw [if_pos h2] at h; cases h
    · omega

def Two (e : Ending) : Prop := ∃ x y, e = .returned (.tuple #[x, y])
theorem Set_all {w : World} {L : BL} {n B : Nat} (h : BRep w L n B) (i : Int) : Calls Tryd.prog 88 #[PB L, .int .i64 i] w fun e w' => Two e ∧ BRep w' L n (setO n B i) ∧ Chg L.U w w' := by
  unfold setO
  by_cases hi : 0 ≤ i ∧ i < n
  · rw [if_pos hi]
    obtain ⟨k, rfl⟩ : ∃ k : Nat, i = (k : Int) := ⟨i.toNat, by omega⟩
    rw [Int.toNat_natCast]
    exact (Set_any h (by omega)).mono fun e w' hp => ⟨⟨_, _, hp.1⟩, hp.2⟩
  · rw [if_neg hi]
    exact (Set_no h i hi).mono fun e w' hp => ⟨⟨_, _, hp.1⟩, h.below hp.2, Chg.ofBelow hp.2⟩
theorem Clear_all {w : World} {L : BL} {n B : Nat} (h : BRep w L n B) (i : Int) : Calls Tryd.prog 90 #[PB L, .int .i64 i] w fun e w' => Two e ∧ BRep w' L n (clrO n B i) ∧ Chg L.U w w' := by
  unfold clrO
  by_cases hi : 0 ≤ i ∧ i < n
  · rw [if_pos hi]
    obtain ⟨k, rfl⟩ : ∃ k : Nat, i = (k : Int) := ⟨i.toNat, by omega⟩
    rw [Int.toNat_natCast]
    exact (Clear_any h (by omega)).mono fun e w' hp => ⟨⟨_, _, hp.1⟩, hp.2⟩
  · rw [if_neg hi]
    exact (Clear_no h i hi).mono fun e w' hp => ⟨⟨_, _, hp.1⟩, h.below hp.2, Chg.ofBelow hp.2⟩
theorem SetRange_all {w : World} {L : BL} {n B : Nat} (h : BRep w L n B) (a c : Int) : Calls Tryd.prog 61 #[PB L, .int .i64 a, .int .i64 c] w fun e w' => Two e ∧ BRep w' L n (setRO n B a c) ∧ Chg L.U w w' := by
  unfold setRO
  by_cases he : rgErr n a c = 0
  · rw [if_pos he]
    obtain ⟨h1, h2, h3, h4, h5⟩ := rgErr_zero he
    have := SetRange_any h h3
    rw [← h4, ← h5] at this
    exact this.mono fun e w' hp => ⟨⟨_, _, hp.1⟩, hp.2⟩
  · rw [if_neg he]
    exact (SetRange_no h a c he).mono fun e w' hp => ⟨⟨_, _, hp.1⟩, h.below hp.2, Chg.ofBelow hp.2⟩
theorem ClearRange_all {w : World} {L : BL} {n B : Nat} (h : BRep w L n B) (a c : Int) : Calls Tryd.prog 91 #[PB L, .int .i64 a, .int .i64 c] w fun e w' => Two e ∧ BRep w' L n (clrRO n B a c) ∧ Chg L.U w w' := by
  unfold clrRO
  by_cases he : rgErr n a c = 0
  · rw [if_pos he]
    obtain ⟨h1, h2, h3, h4, h5⟩ := rgErr_zero he
    have := ClearRange_any h h3
    rw [← h4, ← h5] at this
    exact this.mono fun e w' hp => ⟨⟨_, _, hp.1⟩, hp.2⟩
  · rw [if_neg he]
    exact (ClearRange_no h a c he).mono fun e w' hp => ⟨⟨_, _, hp.1⟩, h.below hp.2, Chg.ofBelow hp.2⟩
theorem Merge_all {w : World} {L : BL} {n B : Nat} {v : Value} {l : List Nat} (h : BRep w L n B) (hv : WSl w v l) (hap : ∀ g, blockOf v = some g → ¬ L.U g) : Calls Tryd.prog 53 #[PB L, v] w fun e w' => Two e ∧ BRep w' L n (mrgO n B l) ∧ Chg L.U w w' := by
  unfold mrgO
  by_cases he : cwErr n l = 0
  · rw [if_pos he]
    exact (Merge_any h hv hap he).mono fun e w' hp => ⟨⟨_, _, hp.1⟩, hp.2.1, hp.2.2.1⟩
  · rw [if_neg he]
    exact (Merge_no h hv he).mono fun e w' hp => ⟨⟨_, _, hp.1⟩, by rw [hp.2]; exact h, by rw [hp.2]; exact Chg.refl _ _⟩

def stepO (n B : Nat) (o : OpV) : Nat :=
  if o.kind = 1 then setO n B o.a else if o.kind = 2 then clrO n B o.a else if o.kind = 3 then setRO n B o.a o.b else if o.kind = 4 then clrRO n B o.a o.b else if o.kind = 5 then mrgO n B o.wl else B
def foldO (n B : Nat) (l : List OpV) : Nat := l.foldl (stepO n) B
theorem foldO_take {n B k : Nat} {l : List OpV} (h : k < l.length) : foldO n B (l.take (k + 1)) = stepO n (foldO n B (l.take k)) l[k] := by
  unfold foldO
  rw [List.take_succ_eq_append_getElem h, List.foldl_append]
  rfl

theorem BNewAt.step {w w1 w2 : World} {L : BL} {n B B' : Nat} (h : BNewAt w w1 L n B) (hr : BRep w2 L n B') (hc : Chg L.U w1 w2) : BNewAt w w2 L n B' := ⟨hr, h.2.1.trans (hc.below h.2.1.size h.2.2), h.2.2⟩
theorem BNewAt.below {w w1 w2 : World} {L : BL} {n B : Nat} (h : BNewAt w w1 L n B) (hb : Below w1.heap.size w1 w2) : BNewAt w w2 L n B := ⟨h.1.below hb, h.2.1.trans (hb.mono h.2.1.size), h.2.2⟩
theorem ptrEqNil (W : World) (a : Addr) : (binOp .eql 44 (.pointer (some a)) (.pointer none)).run Tryd.prog W = .ok (.bool false) W := by kernel_rfl
end Go.Proofs.YtglajdmkbckjjabDoor
