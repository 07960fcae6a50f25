import Derived.Test.YtepgiomgkgfioaaDoorMtSeal
namespace Go.Proofs.YtepgiomgkgfioaaDoor
open Go.RowKit Go.Lib
set_option linter.unusedVariables false
set_option linter.unusedSimpArgs false
set_option maxRecDepth 20000

def bval : List Nat → Nat := List.foldl (fun n b => n * 256 + b) 0
theorem bval_snoc (l : List Nat) (b : Nat) : bval (l ++ [b]) = bval l * 256 + b := by simp [bval]
theorem bval_lt : ∀ (n : Nat) (l : List Nat), l.length = n → (∀ b ∈ l, b < 256) → bval l < 256 ^ n
  | 0, l, h, _ => by rw [List.length_eq_zero_iff.1 h]; decide
  | n + 1, l, h, hb => by
    obtain ⟨m, b, rfl⟩ : ∃ m b, l = m ++ [b] := ⟨l.dropLast, l.getLast (by intro e; subst e; cases h), (List.dropLast_concat_getLast _).symm⟩
    have h1 := bval_lt n m (by simpa using h) fun x hx => hb x (by simp [hx])
    have h2 := hb b (by simp)
    rw [bval_snoc, Nat.pow_succ]
    omega
/-- a reader at rb over the bytes l -/
structure Cur (w : World) (rb b off cap : Nat) (l : List Nat) : Prop where
  row : w.heap[rb]? = some (.cells #[.slice (some ⟨b, off, none⟩) l.length cap] 99 (0, 0))
  sl : BSl w (.slice (some ⟨b, off, none⟩) l.length cap) l
  dat : ∀ i, i < l.length → w.cell? ⟨b, off + i, none⟩ = some (.int .u8 (l.getD i 0 : Nat))
  ne : b ≠ rb
theorem Cur.le {w : World} {rb b off cap : Nat} {l : List Nat} (h : Cur w rb b off cap l) : l.length ≤ cap ∧ cap ≤ maxLen := by
  obtain ⟨a, c, e, h1, h2, _⟩ := h.sl
  cases e
  exact ⟨h1, h2⟩
theorem Cur.bytes {w : World} {rb b off cap : Nat} {l : List Nat} (h : Cur w rb b off cap l) : ∀ x ∈ l, x < 256 := by
  obtain ⟨a, c, e, h1, h2, _, h3, _⟩ := h.sl
  exact h3
theorem Cur.mk' {w : World} {rb b off cap : Nat} {l : List Nat} (row : w.heap[rb]? = some (.cells #[.slice (some ⟨b, off, none⟩) l.length cap] 99 (0, 0))) (h1 : l.length ≤ cap) (h2 : cap ≤ maxLen) (h3 : ∀ x ∈ l, x < 256) (dat : ∀ i, i < l.length → w.cell? ⟨b, off + i, none⟩ = some (.int .u8 (l.getD i 0 : Nat))) (ne : b ≠ rb) : Cur w rb b off cap l :=
  ⟨row, ⟨_, cap, rfl, h1, h2, by simp, h3, fun _ => ⟨b, off, rfl, dat⟩⟩, dat, ne⟩
theorem Cur.lt {w : World} {rb b off cap : Nat} {l : List Nat} (h : Cur w rb b off cap l) : rb < w.heap.size := (Array.getElem?_eq_some_iff.1 h.row).1
theorem Cur.but {w w' : World} {rb b off cap g : Nat} {l : List Nat} (h : Cur w rb b off cap l) (hb : But g w w') (h1 : rb ≠ g) (h2 : b ≠ g) : Cur w' rb b off cap l :=
  Cur.mk' ((hb.block _ h.lt h1).trans h.row) h.le.1 h.le.2 h.bytes (fun i hi => hb.cell (h.dat i hi) h2) h.ne
theorem Cur.below {w w' : World} {rb b off cap : Nat} {l : List Nat} (h : Cur w rb b off cap l) (hb : Below w.heap.size w w') : Cur w' rb b off cap l :=
  Cur.mk' ((hb.block _ h.lt).trans h.row) h.le.1 h.le.2 h.bytes (fun i hi => by rw [hb.cell (World.block_lt_of_cell? w _ (h.dat i hi))]; exact h.dat i hi) h.ne
theorem Cur.part {w : World} {rb b off cap : Nat} {l : List Nat} (h : Cur w rb b off cap l) (k : Nat) (hk : k ≤ l.length) : ∀ i, i < k → w.cell? ⟨b, off + i, none⟩ = some (.int .u8 ((l.take k).getD i 0 : Nat)) := fun i hi => by
  rw [h.dat i (by omega)]
  simp [List.getD, hi]
theorem Cur.step {w : World} {rb b off cap : Nat} {l : List Nat} (h : Cur w rb b off cap l) (k : Nat) (hk : k ≤ l.length) : Cur (w.setCell ⟨rb, 0, none⟩ (.slice (some ⟨b, off + k, none⟩) (l.length - k) (cap - k))) rb b (off + k) (cap - k) (l.drop k) := by
  have hl : (l.drop k).length = l.length - k := by simp
  have hle := h.le
  refine Cur.mk' ?_ (by omega) (by omega) (fun x hx => h.bytes x (List.mem_of_mem_drop hx)) (fun i hi => ?_) h.ne
  · rw [Go.heap_setCell_same w rb 0 _ 99 _ h.row, hl]
    rfl
  · have := (But.setCell rb 0 w (.slice (some ⟨b, off + k, none⟩) (l.length - k) (cap - k))).cell (h.dat (k + i) (by omega)) h.ne
    rw [show off + k + i = off + (k + i) by omega, this]
    simp [List.getD]
theorem take_any (w : World) (rb b off cap k : Nat) (l : List Nat) (h : Cur w rb b off cap l) (hk : k < l.length) : Calls Tryd.prog 51 #[.pointer (some ⟨rb, 0, none⟩), .int .i64 (k : Int)] w fun e w' => e = .returned (.slice (some ⟨b, off, none⟩) k cap) ∧ w' = w.setCell ⟨rb, 0, none⟩ (.slice (some ⟨b, off + k, none⟩) (l.length - k) (cap - k)) := by
  have c0 : w.cell? ⟨rb, 0, none⟩ = some (.slice (some ⟨b, off, none⟩) l.length cap) := cell_of_row _ _ _ _ _ _ h.row
  have z0 : w.frozen? ⟨rb, 0, none⟩ = false := frozen_of_row _ _ _ _ 99 h.row
  obtain ⟨h1, h2⟩ := h.le
  unfold maxLen at h2
  clear h
  have hkc : k ≤ cap := by omega
  have hkn : ¬ cap = k := by omega
  have hkl : k ≤ l.length := by omega
  generalize l.length = n at *
  go_enter Tryd.func51, Tryd.ntmps51
  go_wp2_with fail
  go_ret
  exact ⟨rfl, rfl⟩
theorem or_byte (n x : Nat) (hn : n < 72057594037927936) (hx : x < 256) : bits .or .u64 ((n : Int) * 256) (x : Int) = ((n * 256 + x : Nat) : Int) := by
  have e := u64_or_nat (n * 256) x (by omega) (by omega)
  rw [show ((n * 256 : Nat) : Int) = (n : Int) * 256 by push_cast; rfl] at e
  rw [e]
  have := Nat.shiftLeft_add_eq_or_of_lt (b := x) (i := 8) hx n
  rw [Nat.shiftLeft_eq, show 2 ^ 8 = 256 by decide] at this
  rw [← this]
def NumPost (w : World) (rb b off cap k : Nat) (l : List Nat) (r : Value) (e : Ending) (w' : World) : Prop := e = .returned r ∧ Cur w' rb b (off + k) (cap - k) (l.drop k) ∧ But rb w w'
set_option maxHeartbeats 2000000 in
theorem number_any (w : World) (rb b off cap k : Nat) (l : List Nat) (h : Cur w rb b off cap l) (hk : k < l.length) (h8 : k ≤ 8) : Calls Tryd.prog 58 #[.pointer (some ⟨rb, 0, none⟩), .int .i64 (k : Int)] w fun e w' => NumPost w rb b off cap k l (.int .u64 (bval (l.take k) : Nat)) e w' := by
  have HC := hide h
  have HK := hide h.le
  have HTK := hide (take_any w rb b off cap k l h hk)
  have HS := hide (h.step k (by omega))
  have HBU := hide (But.setCell rb 0 w (.slice (some ⟨b, off + k, none⟩) (l.length - k) (cap - k)))
  have HD : Hid (∀ i, i < k → (w.setCell ⟨rb, 0, none⟩ (.slice (some ⟨b, off + k, none⟩) (l.length - k) (cap - k))).cell? ⟨b, off + i, none⟩ = some (.int .u8 (l.getD i 0 : Nat))) := hide fun i hi => HBU.out.cell (h.dat i (by omega)) h.ne
  have hcap : k ≤ cap := by have := h.le; omega
  have hcm : cap ≤ maxLen := h.le.2
  unfold maxLen at hcm
  have HBL : Hid (∀ j, j < k → bval (l.take j) < 72057594037927936 ∧ l.getD j 0 < 256 ∧ bval (l.take (j + 1)) = bval (l.take j) * 256 + l.getD j 0) := hide fun j hj => by
    refine ⟨?_, ?_, ?_⟩
    · have h1 := bval_lt j (l.take j) (by simp; omega) fun x hx => h.bytes x (List.mem_of_mem_take hx)
      exact Nat.lt_of_lt_of_le h1 (Nat.le_trans (Nat.pow_le_pow_right (by decide) (show j ≤ 7 by omega)) (by decide))
    · have hj2 : j < l.length := by omega
      have : l.getD j 0 = l[j] := by simp [List.getD, hj2]
      rw [this]
      exact h.bytes _ (List.getElem_mem _)
    · have hj2 : j < l.length := by omega
      rw [List.take_succ_eq_append_getElem hj2, bval_snoc]
      simp [List.getD, hj2]
  generalize w.setCell ⟨rb, 0, none⟩ (.slice (some ⟨b, off + k, none⟩) (l.length - k) (cap - k)) = w1 at *
  clear h
  go_enter Tryd.func58, Tryd.ntmps58
  go_wp2_with (go_at_call 51; refine HTK.out.mono ?_; rintro e w2 ⟨rfl, rfl⟩)
  go_loopw [5, 12] (fun v i wr => ∃ j : Nat, j ≤ k ∧ i = .int .i64 (j : Int) ∧ v = .int .u64 (bval (l.take j) : Nat) ∧ wr = w2) (fun _ i _ => k - (intOf i).toNat)
  case atStart => exact ⟨0, Nat.zero_le _, rfl, rfl, rfl⟩
  case round =>
    obtain ⟨j, hj, rfl, rfl, rfl⟩ := hrel
    by_cases hlt : j < k
    · obtain ⟨hN, hx, hE⟩ := HBL.out j hlt
      have cj := HD.out j hlt
      obtain ⟨x, hxe⟩ : ∃ x, l.getD j 0 = x := ⟨_, rfl⟩
      obtain ⟨n, hne⟩ : ∃ n, bval (l.take j) = n := ⟨_, rfl⟩
      rw [hxe] at hx hE cj
      rw [hne] at hN hE ⊢
      have ho := or_byte n x hN hx
      have HE := hide hE
      clear hE hxe hne
      go_wp2
      go_roundw
      case rel => exact ⟨j + 1, by omega, by go_num, by rw [HE.out]; simp, trivial⟩
      case measure => simp [intOf]; omega
    · have hjk : j = k := by omega
      subst hjk
      go_wp2
      go_ret
      exact ⟨rfl, HS.out, HBU.out⟩
theorem long_any (w : World) (rb b off cap : Nat) (l : List Nat) (h : Cur w rb b off cap l) (hk : 8 < l.length) : Calls Tryd.prog 52 #[.pointer (some ⟨rb, 0, none⟩)] w fun e w' => NumPost w rb b off cap 8 l (.int .u64 (bval (l.take 8) : Nat)) e w' := by
  have HN := hide (number_any w rb b off cap 8 l h hk (by omega))
  clear h
  go_enter Tryd.func52, Tryd.ntmps52
  go_wp2_with (go_at_call 58; refine HN.out.mono ?_; rintro e w2 ⟨rfl, hc, hb⟩)
  go_ret
  exact ⟨rfl, hc, hb⟩
theorem short_any (w : World) (rb b off cap : Nat) (l : List Nat) (h : Cur w rb b off cap l) (hk : 4 < l.length) : Calls Tryd.prog 53 #[.pointer (some ⟨rb, 0, none⟩)] w fun e w' => NumPost w rb b off cap 4 l (.int .i64 (bval (l.take 4) : Nat)) e w' := by
  have HN := hide (number_any w rb b off cap 4 l h hk (by omega))
  have hb4 : bval (l.take 4) < 4294967296 := by
    have := bval_lt 4 (l.take 4) (by simp; omega) fun x hx => h.bytes x (List.mem_of_mem_take hx)
    simpa using this
  generalize bval (l.take 4) = n at *
  clear h
  go_enter Tryd.func53, Tryd.ntmps53
  go_wp2_with (go_at_call 58; refine HN.out.mono ?_; rintro e w2 ⟨rfl, hc, hb⟩; have HC2 := hide hc; have HB2 := hide hb; clear hc hb)
  go_ret
  exact ⟨rfl, HC2.out, HB2.out⟩
end Go.Proofs.YtepgiomgkgfioaaDoor
