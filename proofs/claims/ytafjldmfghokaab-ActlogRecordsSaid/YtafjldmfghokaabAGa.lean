import Derived.Test.YtafjldmfghokaabALogA
namespace Go.Proofs.Ytafjldmfghokaab
open Go.RowKit Go.Sort
open Num
set_option linter.unusedVariables false
set_option linter.unusedSimpArgs false
set_option maxRecDepth 20000

/-- the document's log: its block, and its Lru -/
structure RGR (w : World) (rp q : Nat) (cv : Value) (C : List RC) (P ext size next age start : Nat) : Prop where
  row : w.heap[rp]? = some (.cells #[.pointer (some ⟨q, 0, none⟩), .int .i64 (ext : Int), .int .i64 (size : Int), .int .u32 (next : Int), .int .i64 (age : Int), .int .i64 (start : Int)] 154 (0, 0))
  l : RLR w q cv C P
  ap : ¬ RU q cv rp
def RGU (rp q : Nat) (cv : Value) (b : Nat) : Prop := b = rp ∨ RU q cv b
section
variable {w w' : World} {rp q : Nat} {cv : Value} {C C' : List RC} {P P' ext size next age start : Nat}
theorem RGR.c (h : RGR w rp q cv C P ext size next age start) (i : Nat) : w.cell? ⟨rp, i, none⟩ = (#[.pointer (some ⟨q, 0, none⟩), .int .i64 (ext : Int), .int .i64 (size : Int), .int .u32 (next : Int), .int .i64 (age : Int), .int .i64 (start : Int)] : Array Value)[i]? := cell_of_row _ _ _ _ _ _ h.row
theorem RGR.f (h : RGR w rp q cv C P ext size next age start) (i : Nat) : w.frozen? ⟨rp, i, none⟩ = false := frozen_of_row _ _ _ _ 154 h.row
theorem RGR.lt (h : RGR w rp q cv C P ext size next age start) : ∀ b, RGU rp q cv b → b < w.heap.size := by
  rintro b (rfl | e)
  · exact (Array.getElem?_eq_some_iff.1 h.row).1
  · exact h.l.lt b e
theorem RGR.kept (h : RGR w rp q cv C P ext size next age start) (hk : ∀ b, RGU rp q cv b → w'.heap[b]? = w.heap[b]?) : RGR w' rp q cv C P ext size next age start :=
  ⟨(hk _ (.inl rfl)).trans h.row, h.l.kept fun b e => hk b (.inr e), h.ap⟩
theorem RGR.below (h : RGR w rp q cv C P ext size next age start) (hb : Below w.heap.size w w') : RGR w' rp q cv C P ext size next age start := h.kept fun b e => hb.block b (h.lt b e)
theorem RGR.turn (h : RGR w rp q cv C P ext size next age start) (hl : RLR w' q cv C' P') (hc : Chg (RU q cv) w w') : RGR w' rp q cv C' P' ext size next age start :=
  ⟨(hc.keep rp (h.lt rp (.inl rfl)) h.ap).trans h.row, hl, h.ap⟩
end
def okSz (n : Int) : Bool := n == 128 || n == 256 || n == 512 || n == 1024
theorem okSz_iff {n : Int} : okSz n = true ↔ (n = 128 ∨ n = 256 ∨ n = 512 ∨ n = 1024) := by simp [okSz, or_assoc]
theorem okSz_lo {n : Int} (h : ¬ 128 ≤ n) : okSz n = false := by
  cases e : okSz n with
  | false => rfl
  | true => have := okSz_iff.1 e; omega
theorem okSz_hi {n : Int} (h : ¬ n ≤ 1024) : okSz n = false := by
  cases e : okSz n with
  | false => rfl
  | true => have := okSz_iff.1 e; omega
theorem pow_all : ∀ m : Nat, m < 1025 → 128 ≤ m → (bits BinOp.and .i64 (m : Int) ((m : Int) - 1) == 0) = okSz m := by decide +kernel
theorem vsize_any (w : World) (n : Int) : Calls Try.prog 51 #[.int .i64 n] w fun e w' => e = .returned (.bool (okSz n)) ∧ w' = w := by
  by_cases h1 : 128 ≤ n
  · by_cases h2 : n ≤ 1024
    · go_enter Try.func51, Try.ntmps51
      go_wp2_with fail
      go_ret
      refine ⟨?_, rfl⟩
      obtain ⟨m, rfl⟩ : ∃ m : Nat, n = m := ⟨n.toNat, by omega⟩
      have h := pow_all m (by omega) (by omega)
      rw [← h]
      rfl
    · rw [okSz_hi h2]
      go_enter Try.func51, Try.ntmps51
      go_wp2_with fail
      go_ret
      exact ⟨rfl, rfl⟩
  · rw [okSz_lo h1]
    go_enter Try.func51, Try.ntmps51
    go_wp2_with fail
    go_ret
    exact ⟨rfl, rfl⟩
theorem rblock_any (w : World) (n : Int) : Calls Try.prog 87 #[.int .i64 n] w fun e w' => e = .returned (.bool (okSz n)) ∧ w' = w := by
  unfold okSz
  by_cases h1 : n = 128
  · subst h1
    go_enter Try.func87, Try.ntmps87
    go_wp2_with fail
    go_ret
    exact ⟨rfl, rfl⟩
  by_cases h2 : n = 256
  · subst h2
    go_enter Try.func87, Try.ntmps87
    go_wp2_with fail
    go_ret
    exact ⟨rfl, rfl⟩
  by_cases h3 : n = 512
  · subst h3
    go_enter Try.func87, Try.ntmps87
    go_wp2_with fail
    go_ret
    exact ⟨rfl, rfl⟩
  go_enter Try.func87, Try.ntmps87
  go_wp2_with fail
  go_ret
  exact ⟨by simp, rfl⟩
/-- numbers with which New makes a log -/
def mkOk (a b c : Int) : Prop := (1 ≤ a ∧ a ≤ 16) ∧ (1 ≤ b ∧ b ≤ 1024) ∧ okSz c = true
instance (a b c : Int) : Decidable (mkOk a b c) := by unfold mkOk; infer_instance
set_option maxHeartbeats 1000000 in
theorem logNew_no (w : World) (a b c : Int) (d : Nat) (h : ¬ mkOk a b c) :
    Calls Try.prog 27 #[.int .i64 a, .int .i64 b, .int .i64 c, .int .u32 (d : Int)] w fun e w' => e = .returned (.tuple #[.pointer none, .int .i64 1]) ∧ Below w.heap.size w w' := by
  have HV : Hid (∀ x, _) := hide fun (x : World) => vext_any x b
  have HS : Hid (∀ x, _) := hide fun (x : World) => vsize_any x c
  by_cases h1 : 1 ≤ a ∧ a ≤ 16
  · obtain ⟨n, rfl⟩ : ∃ n : Nat, a = (n : Int) := ⟨a.toNat, by omega⟩
    have HN := hide (newI_any w n (by omega) (by omega))
    by_cases h2 : 1 ≤ b ∧ b ≤ 1024
    · have h3 : okSz c = false := by
        cases e : okSz c with
        | false => rfl
        | true => exact absurd ⟨h1, h2, e⟩ h
      rw [decide_eq_true h2] at HV
      rw [h3] at HS
      clear h h1 h2 h3
      go_enter Try.func27, Try.ntmps27
      go_wp2_with (first
        | (go_at_call 50; refine HN.out.mono ?_; rintro e w1 ⟨rfl, g1, g2⟩; have HG := hide g2; clear g1 g2 HN)
        | (go_at_call 42; refine (HV.out _).mono ?_; rintro e w2 ⟨rfl, rfl⟩)
        | (go_at_call 51; refine (HS.out _).mono ?_; rintro e w2 ⟨rfl, rfl⟩))
      go_ret2
      exact ⟨rfl, HG.out⟩
    · rw [decide_eq_false h2] at HV
      clear h h1 h2
      go_enter Try.func27, Try.ntmps27
      go_wp2_with (first
        | (go_at_call 50; refine HN.out.mono ?_; rintro e w1 ⟨rfl, g1, g2⟩; have HG := hide g2; clear g1 g2 HN)
        | (go_at_call 42; refine (HV.out _).mono ?_; rintro e w2 ⟨rfl, rfl⟩))
      go_ret2
      exact ⟨rfl, HG.out⟩
  · have HN := hide (newI_no w a h1)
    clear h h1
    go_enter Try.func27, Try.ntmps27
    go_wp2_with (first
      | (go_at_call 50; refine HN.out.mono ?_; rintro e w1 ⟨rfl, rfl⟩; clear HN))
    go_ret2
    exact ⟨rfl, Below.refl _ _⟩
set_option maxHeartbeats 1000000 in
theorem gNew_no (w : World) (a b c : Int) (d : Nat) (h : ¬ mkOk a b c) :
    Calls Try.prog 62 #[.int .i64 a, .int .i64 b, .int .i64 c, .int .u32 (d : Int)] w fun e w' => e = .returned (.tuple #[.pointer none, .int .i64 1]) ∧ Below w.heap.size w w' := by
  have HS : Hid (∀ x, _) := hide fun (x : World) => rblock_any x c
  by_cases h1 : 1 ≤ a ∧ a ≤ 16
  · obtain ⟨n, rfl⟩ : ∃ n : Nat, a = (n : Int) := ⟨a.toNat, by omega⟩
    have HN := hide (rNew_any w n (by omega) (by omega))
    by_cases h2 : 1 ≤ b
    · by_cases h2' : b ≤ 1024
      · have h3 : okSz c = false := by
          cases e : okSz c with
          | false => rfl
          | true => exact absurd ⟨h1, ⟨h2, h2'⟩, e⟩ h
        rw [h3] at HS
        clear h h1 h3
        go_enter Try.func62, Try.ntmps62
        go_wp2_with (first
          | (go_at_call 86; refine HN.out.mono ?_; rintro e w1 ⟨cv, rfl, g2, -⟩; have HG := hide g2; clear g2 HN)
          | (go_at_call 87; refine (HS.out _).mono ?_; rintro e w2 ⟨rfl, rfl⟩))
        go_ret2
        exact ⟨rfl, HG.out⟩
      · clear h h1
        go_enter Try.func62, Try.ntmps62
        go_wp2_with (first
          | (go_at_call 86; refine HN.out.mono ?_; rintro e w1 ⟨cv, rfl, g2, -⟩; have HG := hide g2; clear g2 HN))
        go_ret2
        exact ⟨rfl, HG.out⟩
    · clear h h1
      go_enter Try.func62, Try.ntmps62
      go_wp2_with (first
        | (go_at_call 86; refine HN.out.mono ?_; rintro e w1 ⟨cv, rfl, g2, -⟩; have HG := hide g2; clear g2 HN))
      go_ret2
      exact ⟨rfl, HG.out⟩
  · have HN := hide (rNew_no w a h1)
    clear h h1
    go_enter Try.func62, Try.ntmps62
    go_wp2_with (first
      | (go_at_call 86; refine HN.out.mono ?_; rintro e w1 ⟨rfl, rfl⟩; clear HN))
    go_ret2
    exact ⟨rfl, Below.refl _ _⟩
set_option maxHeartbeats 1000000 in
theorem gNew_any (w : World) (n ext size first : Nat) (h1 : 1 ≤ n) (h2 : n ≤ 16) (h3 : 1 ≤ ext) (h4 : ext ≤ 1024) (h5 : okSz size = true) :
    Calls Try.prog 62 #[.int .i64 (n : Int), .int .i64 (ext : Int), .int .i64 (size : Int), .int .u32 (first : Int)] w fun e w' => ∃ rp cv, w.heap.size ≤ rp ∧ e = .returned (.tuple #[.pointer (some ⟨rp, 0, none⟩), .int .i64 0]) ∧ RGR w' rp w.heap.size cv (List.replicate n cz) 0 ext size first 0 0 ∧ Below w.heap.size w w' ∧ ∀ b, RGU rp w.heap.size cv b → w.heap.size ≤ b := by
  have HN := hide (rNew_any w n h1 h2)
  have HS : Hid (∀ x, _) := hide fun (x : World) => rblock_any x (size : Int)
  rw [h5] at HS
  have HF : Hid (∀ w1 cv, RLR w1 w.heap.size cv (List.replicate n cz) 0 → Below w.heap.size w w1 → (∀ b, RU w.heap.size cv b → w.heap.size ≤ b) → RGR (w1.alloc (.cells #[.pointer (some ⟨w.heap.size, 0, none⟩), .int .i64 (ext : Int), .int .i64 (size : Int), .int .u32 (first : Int), .int .i64 0, .int .i64 0] 154)) w1.heap.size w.heap.size cv (List.replicate n cz) 0 ext size first 0 0 ∧ Below w.heap.size w (w1.alloc (.cells #[.pointer (some ⟨w.heap.size, 0, none⟩), .int .i64 (ext : Int), .int .i64 (size : Int), .int .u32 (first : Int), .int .i64 0, .int .i64 0] 154)) ∧ w.heap.size ≤ w1.heap.size ∧ ∀ b, RGU w1.heap.size w.heap.size cv b → w.heap.size ≤ b) := hide fun w1 cv hl hb hu =>
    ⟨⟨Go.heap_alloc_new _ _, hl.below ((Below.refl _ _).alloc (Nat.le_refl _) _), fun e => by have := hl.lt _ e; omega⟩, hb.alloc hb.size _, hb.size, fun b e => by
      rcases e with rfl | e
      · exact hb.size
      · exact hu b e⟩
  have hx1 : ((ext : Int) < 1) = False := by simp; omega
  have hx2 : ((1024 : Int) < (ext : Int)) = False := by simp; omega
  clear h1 h2 h5
  go_enter Try.func62, Try.ntmps62
  go_wp2_with (first
    | (go_at_call 86; refine HN.out.mono ?_; rintro e w1 ⟨cv, rfl, g2, g1, g3⟩; have HG := hide (HF.out _ _ g1 g2 g3); clear g1 g2 g3 HN HF)
    | (go_at_call 87; refine (HS.out _).mono ?_; rintro e w2 ⟨rfl, rfl⟩))
  go_ret2
  exact ⟨_, _, HG.out.2.2.1, rfl, HG.out.1, HG.out.2.1, HG.out.2.2.2⟩
end Go.Proofs.Ytafjldmfghokaab
