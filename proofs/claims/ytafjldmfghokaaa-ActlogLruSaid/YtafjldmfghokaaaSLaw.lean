import Derived.Test.YtafjldmfghokaaaSTxtK
namespace Go.Proofs.Ytafjldmfghokaaa.St
open Go.RowKit Go.Sort
set_option linter.unusedVariables false
set_option linter.unusedSimpArgs false
set_option maxRecDepth 20000

structure AskV where
  kind : Int
  of_ : Int
  key : Int
/-- a list of asks that came in -/
def ASl (w : World) (v : Value) (l : List AskV) : Prop :=
  ∃ a cap, v = .slice a l.length cap ∧ l.length ≤ cap ∧ cap ≤ maxLen ∧ (∀ s ∈ l, i64ok s.kind ∧ i64ok s.of_ ∧ i64ok s.key) ∧ (0 < l.length → ∃ b off, a = some ⟨b, off, none⟩ ∧ ∀ i (hi : i < l.length), w.cell? ⟨b, off + i * 3, none⟩ = some (.int .i64 l[i].kind) ∧ w.cell? ⟨b, off + i * 3 + 1, none⟩ = some (.int .i64 l[i].of_) ∧ w.cell? ⟨b, off + i * 3 + 2, none⟩ = some (.int .i64 l[i].key))
theorem texts_any {A : Nat → Prop} {p q M : Nat} {w : World} (h : Two A w p q M) (hM : M ≤ 4611686018427387904) (k0 k1 k2 i : Int) (hk : i64ok k2) (hi : i64ok i) :
    Calls Try.prog 21 #[.pointer (some ⟨p, 0, none⟩), .pointer (some ⟨q, 0, none⟩), .agg #[.int .i64 k0, .int .i64 k1, .int .i64 k2], .int .i64 i] w fun e w' => e = .returned (.bool true) ∧ Two A w' p q (M + 1) ∧ Chg A w w' := by
  by_cases h0 : k0 = 0
  · subst h0; exact texts_get h hM k1 k2 i hk
  by_cases h1 : k0 = 1
  · subst h1; exact texts_put h hM k1 k2 i hk
  by_cases h2 : k0 = 2
  · subst h2; exact texts_refs h k1 k2 i hk
  by_cases h3 : k0 = 3
  · subst h3; exact texts_slot h k1 k2 i hk
  by_cases h4 : k0 = 4
  · subst h4; exact texts_keys h hM k1 k2 i hk hi
  exact texts_other h k0 k1 k2 i hk h0 h1 h2 h3 h4
theorem ptrS (W : World) : (binOp .eql 43 (.pointer none) (.pointer none)).run Try.prog W = .ok (.bool true) W := by kernel_rfl
theorem ptrS' (W : World) (a : Addr) : (binOp .eql 43 (.pointer (some a)) (.pointer none)).run Try.prog W = .ok (.bool false) W := by kernel_rfl
theorem ptrR (W : World) : (binOp .eql 46 (.pointer none) (.pointer none)).run Try.prog W = .ok (.bool true) W := by kernel_rfl
theorem ptrR' (W : World) (a : Addr) : (binOp .eql 46 (.pointer (some a)) (.pointer none)).run Try.prog W = .ok (.bool false) W := by kernel_rfl
theorem two_start {w w1 w2 : World} {n : Nat} {cv : Value} (hn1 : 1 ≤ n) (hn2 : n ≤ 16) (h1 : LRep w1 (w.heap.size + 1) w.heap.size (.slice none 0 0) (.slice none 0 0) (.slice none 0 0) ⟨n, [], [], [], []⟩) (h2 : Below w.heap.size w w1) (h3 : Below w1.heap.size w1 w2) (h4 : RLR w2 w1.heap.size cv (List.replicate n cz) 0) (h5 : ∀ b, RU w1.heap.size cv b → w1.heap.size ≤ b) :
    Two (fun b => w.heap.size ≤ b) w2 (w.heap.size + 1) w1.heap.size 0 ∧ Below w.heap.size w w2 := by
  have hs := h2.size
  refine ⟨⟨w.heap.size, _, _, _, cv, ⟨n, [], [], [], []⟩, List.replicate n cz, 0, h1.below h3, h4, Rel.start n, ⟨hn1, hn2, Nat.zero_le _, rfl, List.nodup_nil, List.nodup_nil, fun s => by simp, fun k h => by simp at h, fun r h => by simp at h, rfl⟩, Nat.le_refl _, ⟨fun b e => ?_, fun b e => ?_, fun b e1 e2 => ?_⟩, fun b e => ?_⟩, h2.trans (h3.mono h2.size)⟩
  · rcases e with rfl | rfl | e | e | e
    · omega
    · exact Nat.le_refl _
    · simp [Value.ownBlock] at e
    · simp [Value.ownBlock] at e
    · simp [Value.ownBlock] at e
  · have := h5 b e; omega
  · have := h5 b e2
    have := h1.lt b e1
    omega
  · have := h3.size; omega
theorem cell_lt {w : World} {b o : Nat} {v : Value} (h : w.cell? ⟨b, o, none⟩ = some v) : b < w.heap.size := by
  rcases Nat.lt_or_ge b w.heap.size with h' | h'
  · exact h'
  · exfalso
    have := Array.getElem?_eq_none h'
    simp [World.cell?, this] at h
theorem lru_no {w : World} {sv : Value} {l : List AskV} (n : Int) (hn : ¬ (1 ≤ n ∧ n ≤ 16)) (hs : ASl w sv l) :
    Calls Try.prog 5 #[.int .i64 n, sv] w fun e w' => e = .returned (.bool true) ∧ Below w.heap.size w w' := by
  have q1 := ptrS
  have q2 := ptrR
  have HN := hide (new_no w n hn)
  have HNR := hide (rNew_no w n hn)
  have HNU := hide (num_any w 1)
  have HB := hide (Below.refl w.heap.size w)
  obtain ⟨a, cap, rfl, h1, h2, -, -⟩ := hs
  unfold maxLen at h2
  generalize l.length = len at *
  go_enter Try.func5, Try.ntmps5
  go_wp2_with (first
    | (go_at_call 19; refine HN.out.mono ?_; rintro e w1 ⟨rfl, rfl⟩)
    | (go_at_call 20; refine HNR.out.mono ?_; rintro e w1 ⟨rfl, rfl⟩)
    | (go_at_call 12; refine HNU.out.mono ?_; rintro e w1 ⟨rfl, rfl⟩))
  go_ret
  exact ⟨rfl, HB.out⟩
set_option maxHeartbeats 2000000 in
theorem lru_any {w : World} {sv : Value} {l : List AskV} (n : Nat) (hn1 : 1 ≤ n) (hn2 : n ≤ 16) (hs : ASl w sv l) (hz : l.length ≤ 1000000000000000) :
    Calls Try.prog 5 #[.int .i64 (n : Int), sv] w fun e w' => e = .returned (.bool true) ∧ Below w.heap.size w w' := by
  have q1 := ptrS'
  have q2 := ptrR'
  have HN := hide (new_any w n hn1 hn2)
  have HNR := hide fun (x : World) => rNew_any x n hn1 hn2
  have HNU := hide fun (x : World) (e : Int) => num_any x e
  have HST : Hid (∀ w1 w2 cv, _ → _ → _ → _ → _ → _) := hide fun w1 w2 cv => two_start (w := w) (w1 := w1) (w2 := w2) (n := n) (cv := cv) hn1 hn2
  obtain ⟨a, cap, rfl, h1, h2, h3, h4⟩ := hs
  unfold maxLen at h2
  go_enter Try.func5, Try.ntmps5
  go_wp2_with (first
    | (go_at_call 19; refine HN.out.mono ?_; rintro e w1 ⟨rfl, g1, g2⟩; have HG := hide (And.intro g1 g2); clear g1 g2 HN)
    | (go_at_call 20; refine (HNR.out _).mono ?_; rintro e w2 ⟨cv, rfl, g1, g2, g3⟩; have HT := hide (HST.out _ _ _ HG.out.1 HG.out.2 g1 g2 g3); clear g1 g2 g3 HNR HST)
    | (go_at_call 12; refine (HNU.out _ _).mono ?_; rintro e w3 ⟨rfl, rfl⟩))
  clear HG HNU q1 q2
  generalize w.heap.size + 1 = p at *
  generalize w1.heap.size = q at *
  have HTX : Hid (∀ x m, Two (fun b => w.heap.size ≤ b) x p q m → m ≤ 1000000000000000 → ∀ k0 k1 k2 i, i64ok k2 → i64ok i → _) := hide fun x m (hx : Two (fun b => w.heap.size ≤ b) x p q m) (hm : m ≤ 1000000000000000) (k0 k1 k2 i : Int) (hk : i64ok k2) (hi : i64ok i) => texts_any hx (by omega) k0 k1 k2 i hk hi
  have HC : Hid (∀ x, Below w.heap.size w x → ∀ i, i < l.length → ∃ b off k0 k1 k2, a = some ⟨b, off, none⟩ ∧ x.cell? ⟨b, off + i * 3, none⟩ = some (.int .i64 k0) ∧ x.cell? ⟨b, off + i * 3 + 1, none⟩ = some (.int .i64 k1) ∧ x.cell? ⟨b, off + i * 3 + 2, none⟩ = some (.int .i64 k2) ∧ i64ok k2) := hide fun x hx i hi => by
    obtain ⟨b, off, e, hc⟩ := h4 (by omega)
    obtain ⟨q0, q1, q2⟩ := hc i hi
    have hb : b < w.heap.size := cell_lt q0
    exact ⟨b, off, _, _, _, e, by rw [hx.cell (p := ⟨b, _, none⟩) hb]; exact q0, by rw [hx.cell (p := ⟨b, _, none⟩) hb]; exact q1, by rw [hx.cell (p := ⟨b, _, none⟩) hb]; exact q2, (h3 _ (List.getElem_mem hi)).2.2⟩
  clear h3 h4
  generalize l.length = len at *
  go_loopw [9] (fun x wr => ∃ i : Nat, i ≤ len ∧ x = .int .i64 (i : Int) ∧ Two (fun b => w.heap.size ≤ b) wr p q i ∧ Below w.heap.size w wr) (fun x _ => len - (intOf x).toNat)
  case atStart => exact ⟨0, Nat.zero_le _, rfl, HT.out⟩
  case round =>
    clear HT
    obtain ⟨i, hin, rfl, htw, hbe⟩ := hrel
    have HT := hide (And.intro htw hbe)
    clear htw
    have HFIN : Hid (∀ x, Chg (fun b => w.heap.size ≤ b) wr x → Below w.heap.size w x) := hide fun x hx => HT.out.2.trans ((hx.below HT.out.2.size fun b e => e))
    by_cases hlt : i < len
    · obtain ⟨b, off, k0, k1, k2, rfl, r0, r1, r2, hk2⟩ := HC.out wr hbe i hlt
      have HX := hide (HTX.out wr i HT.out.1 (by omega) k0 k1 k2 (i : Int) hk2 (by unfold i64ok; omega))
      clear hk2 HTX HC hbe HT
      go_wp2_with (first
        | (go_at_call 21; refine HX.out.mono ?_; rintro e w4 ⟨rfl, t1, t2⟩; have HY := hide (And.intro t1 (HFIN.out _ t2)); clear t1 t2 HX HFIN))
      go_roundw
      case rel => exact ⟨i + 1, by omega, by go_num, HY.out⟩
      case measure => simp [intOf]; omega
    · have HX := hide (HTX.out wr i HT.out.1 (by omega) 4 0 0 (-1) (by unfold i64ok; omega) (by unfold i64ok; omega))
      clear HTX HC hbe HT
      go_wp2_with (first
        | (go_at_call 21; refine HX.out.mono ?_; rintro e w4 ⟨rfl, t1, t2⟩; have HY := hide (HFIN.out _ t2); clear t1 t2 HX HFIN))
      go_ret
      exact ⟨rfl, HY.out⟩
theorem lruLaw {w : World} {sv : Value} {l : List AskV} (n : Int) (hs : ASl w sv l) (hz : l.length ≤ 1000000000000000) :
    Calls Try.prog 5 #[.int .i64 n, sv] w fun e w' => e = .returned (.bool true) ∧ Below w.heap.size w w' := by
  by_cases hn : 1 ≤ n ∧ n ≤ 16
  · obtain ⟨m, rfl⟩ : ∃ m : Nat, n = (m : Int) := ⟨n.toNat, by omega⟩
    exact lru_any m (by omega) (by omega) hs hz
  · exact lru_no n hn hs
end Go.Proofs.Ytafjldmfghokaaa.St
