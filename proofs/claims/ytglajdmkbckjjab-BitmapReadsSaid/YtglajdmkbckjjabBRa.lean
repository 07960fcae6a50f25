import Derived.Test.YtglajdmkbckjjabBRe
import Derived.Test.YtglajdmkbckjjabBBz
import Derived.Test.YtglajdmkbckjjabBKeepA
namespace Go.Proofs.Ytglajdmkbckjjab
open Go.RowKit Go.Shelf
set_option linter.unusedVariables false
set_option linter.unusedSimpArgs false
set_option maxRecDepth 20000

/-- what Decode says: the words, the place, the error -/
def dAn (n : Int) (c : List Nat) : List Nat × Nat × Nat := if 1 ≤ n ∧ n ≤ 65536 then (match dOut n.toNat c with | (some B, _) => (wds B (nW n.toNat), 0, 0) | (none, p) => ([], p, 31)) else ([], 0, 1)
/-- an answer of the program's: own words in new memory -/
def PAns (x : World) (q : List Nat × Nat × Nat) (e : Ending) (w' : World) : Prop := ∃ av, e = .returned (.tuple #[av, .int .i64 ((q.2.1 : Nat) : Int), .int .i64 ((q.2.2 : Nat) : Int)]) ∧ w'.ownsRow 0 58 1 av q.1.length (q.1.map u64V) ∧ WSl w' av q.1 ∧ Below x.heap.size x w' ∧ ∀ b, av.ownBlock = some b → x.heap.size ≤ b
/-- an answer of the document's: words in new memory -/
def DAns (x : World) (q : List Nat × Nat × Nat) (e : Ending) (w' : World) : Prop := ∃ bv, e = .returned (.tuple #[bv, .int .i64 ((q.2.1 : Nat) : Int), .int .i64 ((q.2.2 : Nat) : Int)]) ∧ WSl w' bv q.1 ∧ Below x.heap.size x w' ∧ ∀ b, blockOf bv = some b → x.heap.size ≤ b ∧ b < w'.heap.size
theorem wsl_lt {w : World} {v : Value} {l : List Nat} (h : WSl w v l) (h0 : 0 < l.length) : ∀ b, blockOf v = some b → b < w.heap.size := fun b e => by
  obtain ⟨a, cap, rfl, _, _, _, _, h5⟩ := h
  obtain ⟨g, off, rfl, hc⟩ := h5 h0
  simp [blockOf] at e
  subst e
  exact World.block_lt_of_cell? w _ (hc 0 h0)
theorem wsl_nil (w : World) : WSl w (.slice none 0 0) [] := ⟨none, 0, rfl, Nat.le_refl _, by unfold maxLen; omega, fun _ => rfl, by simp, by simp⟩
theorem own_nil (w : World) : w.ownsRow 0 58 1 (.slice none 0 0) ([] : List Nat).length (([] : List Nat).map u64V) := ⟨rfl, .inl ⟨rfl, rfl⟩⟩
theorem dAn_len (n : Int) (c : List Nat) : (dAn n c).1.length ≤ 1024 := by
  unfold dAn
  split
  · rename_i h
    split
    · show (wds _ _).length ≤ 1024
      rw [wds_len]
      unfold nW
      omega
    · simp
  · simp
theorem decode_all {x : World} {cv : Value} {c : List Nat} (n : Int) (hc : CSl x cv c) (hl : c.length ≤ 140737488351232) : Calls Try.prog 5 #[.int .i64 n, cv] x (PAns x (dAn n c)) := by
  unfold dAn
  by_cases h : 1 ≤ n ∧ n ≤ 65536
  · rw [if_pos h]
    obtain ⟨m, rfl⟩ : ∃ m : Nat, n = (m : Int) := ⟨n.toNat, by omega⟩
    rw [Int.toNat_natCast]
    refine (decode_any (by omega) (by omega) hc (by omega)).mono fun e w' hq => ?_
    cases hd : dOut m c with
    | mk o p =>
      rw [hd] at hq
      cases o with
      | some B =>
        obtain ⟨v', rfl, h1, h2, -, h4⟩ := hq
        refine ⟨v', rfl, ?_, h2, h4, fun b e => (h1.lt b e).1⟩
        show w'.ownsRow 0 58 1 v' (wds B (nW m)).length _
        rw [wds_len]
        exact own_low h1 (Nat.zero_le _)
      | none =>
        obtain ⟨rfl, h4⟩ := hq
        exact ⟨_, rfl, own_nil _, wsl_nil _, h4, fun b e => by simp [Value.ownBlock] at e⟩
  · rw [if_neg h]
    refine (decode_no n cv h).mono fun e w' hq => ?_
    obtain ⟨rfl, h4⟩ := hq
    exact ⟨_, rfl, own_nil _, wsl_nil _, h4, fun b e => by simp [Value.ownBlock] at e⟩
theorem rdecode_all {x : World} {cv : Value} {c : List Nat} (n : Int) (hc : CSl x cv c) (hl : c.length ≤ 140737488351232) : Calls Try.prog 6 #[.int .i64 n, cv] x (DAns x (dAn n c)) := by
  unfold dAn
  by_cases h : 1 ≤ n ∧ n ≤ 65536
  · rw [if_pos h]
    obtain ⟨m, rfl⟩ : ∃ m : Nat, n = (m : Int) := ⟨n.toNat, by omega⟩
    rw [Int.toNat_natCast]
    refine (rdecode_any (by omega) (by omega) hc (by omega)).mono fun e w' hq => ?_
    cases hd : dOut m c with
    | mk o p =>
      rw [hd] at hq
      cases o with
      | some B =>
        obtain ⟨v', rfl, h1, h2, h3⟩ := hq
        exact ⟨v', rfl, h1, h2, fun b e => ⟨h3 b e, wsl_lt h1 (by rw [wds_len]; unfold nW; omega) b e⟩⟩
      | none =>
        obtain ⟨rfl, h4⟩ := hq
        exact ⟨_, rfl, wsl_nil _, h4, fun b e => by simp [blockOf] at e⟩
  · rw [if_neg h]
    have hcv : ∃ a m k, cv = .slice a m k := by obtain ⟨a, cap, rfl, -⟩ := hc; exact ⟨_, _, _, rfl⟩
    refine (rdecode_no n cv hcv h).mono fun e w' hq => ?_
    obtain ⟨rfl, hw⟩ := hq
    rw [hw]
    exact ⟨_, rfl, wsl_nil _, Below.refl _ _, fun b e => by simp [blockOf] at e⟩
end Go.Proofs.Ytglajdmkbckjjab
