import Derived.Test.YtdjdcpldofmdjaaCCho
namespace Go.Proofs.Ytdjdcpldofmdjaa
open Go.RowKit
set_option linter.unusedVariables false
set_option linter.unusedSimpArgs false
set_option maxRecDepth 20000

theorem cp_full : ∀ (l m : List UInt8), cp l m = m.length ↔ l.take m.length = m
  | [], [] => by simp [cp]
  | [], b :: m => by simp [cp]
  | a :: l, [] => by simp [cp]
  | a :: l, b :: m => by
    have ih := cp_full l m
    unfold cp
    split
    · rename_i h
      simp [h, ih]
    · rename_i h
      simp [h]
theorem ext_tx (a : ByteArray) (n : Nat) : tx (a.extract 0 n) = (tx a).take n := by
  simp [tx]
theorem pre_eq (a b : ByteArray) (h : b.size ≤ a.size) : (a.extract 0 b.size = b) ↔ cp (tx a) (tx b) = b.size := by
  rw [← tx_len b, cp_full, tx_len, ← ext_tx]
  constructor
  · intro e; rw [e]
  · intro e
    have : (a.extract 0 b.size).data = b.data := Array.toList_inj.1 e
    cases hb : a.extract 0 b.size
    cases b
    simp_all
theorem str_eq (a b : ByteArray) : (a.toList == b.toList) = decide (tx a = tx b) := by
  rw [ByteArray.toList_eq, ByteArray.toList_eq, Bool.eq_iff_iff]
  simp [tx]
set_option maxHeartbeats 400000 in
theorem hasPre_any (a b : ByteArray) (w : World) (ha : a.size ≤ maxLen) (hb : b.size ≤ maxLen) :
    Calls Try.prog 69 #[.string a, .string b] w fun e w' => e = .returned (.bool (decide (cp (tx a) (tx b) = b.size))) ∧ w' = w := by
  unfold maxLen at ha hb
  have h1 := pre_eq a b
  have h2 := cp_le_l (tx a) (tx b)
  rw [tx_len] at h2
  have H1 : Hid (b.size ≤ a.size → ((a.extract 0 b.size).toList == b.toList) = decide (cp (tx a) (tx b) = b.size)) := hide fun h => by
    rw [str_eq, ext_tx, Bool.eq_iff_iff, ← tx_len b, decide_eq_true_eq, decide_eq_true_eq, cp_full]
  have H2 : Hid (¬ b.size ≤ a.size → decide (cp (tx a) (tx b) = b.size) = false) := hide fun h => by
    simp; omega
  clear h1 h2
  by_cases hl : b.size ≤ a.size
  · go_enter Try.func69, Try.ntmps69
    go_wp2_with (go_at_call 70; go_enter Try.func70, Try.ntmps70)
    go_ret
    exact ⟨by rw [← H1.out hl]; rfl, rfl⟩
  · go_enter Try.func69, Try.ntmps69
    go_wp2_with (go_at_call 70; go_enter Try.func70, Try.ntmps70)
    go_ret
    exact ⟨by rw [H2.out hl]; rfl, rfl⟩
/-- the first of the names that the text begins with; how far it goes on like one of them -/
def chWho : Nm → List UInt8 → Option (Nat × Int)
  | [], _ => none
  | (s, n) :: l, t => if cp t (tx s) = s.size then some (s.size, n) else chWho l t
def chFar : Nm → List UInt8 → Nat → Nat
  | [], _, k => k
  | (s, _) :: l, t, k => chFar l t (max k (cp t (tx s)))
theorem chWho_at : ∀ (ns : Nm) (i : Nat) (t : List UInt8), i < ns.length → (∀ j, j < i → cp t (tx (ns.getD j default).1) ≠ (ns.getD j default).1.size) → cp t (tx (ns.getD i default).1) = (ns.getD i default).1.size → chWho ns t = some ((ns.getD i default).1.size, (ns.getD i default).2)
  | [], i, t, h, _, _ => by simp at h
  | p :: l, 0, t, _, _, h => by simp at h; simp [chWho, h]
  | p :: l, i + 1, t, h, h1, h2 => by
    have e : cp t (tx p.1) ≠ p.1.size := by simpa using h1 0 (by omega)
    simp only [chWho, if_neg e]
    simpa using chWho_at l i t (by simpa using h) (fun j hj => by simpa using h1 (j + 1) (by omega)) (by simpa using h2)
theorem chWho_no : ∀ (ns : Nm) (t : List UInt8), (∀ j, j < ns.length → cp t (tx (ns.getD j default).1) ≠ (ns.getD j default).1.size) → chWho ns t = none
  | [], t, _ => rfl
  | p :: l, t, h => by
    have e : cp t (tx p.1) ≠ p.1.size := by simpa using h 0 (by simp)
    simp only [chWho, if_neg e]
    exact chWho_no l t fun j hj => by simpa using h (j + 1) (by simpa using hj)
theorem chFar_take : ∀ (ns : Nm) (i : Nat) (t : List UInt8) (k : Nat), i < ns.length → chFar (ns.take (i + 1)) t k = max (chFar (ns.take i) t k) (cp t (tx (ns.getD i default).1))
  | [], i, t, k, h => by simp at h
  | p :: l, 0, t, k, _ => by simp [chFar]
  | p :: l, i + 1, t, k, h => by
    simpa [chFar] using chFar_take l i t (max k (cp t (tx p.1))) (by simpa using h)
theorem chFar_le : ∀ (ns : Nm) (t : List UInt8) (k : Nat), k ≤ t.length → chFar ns t k ≤ t.length
  | [], t, k, h => h
  | p :: l, t, k, h => chFar_le l t _ (by have := cp_le_l t (tx p.1); omega)
end Go.Proofs.Ytdjdcpldofmdjaa
