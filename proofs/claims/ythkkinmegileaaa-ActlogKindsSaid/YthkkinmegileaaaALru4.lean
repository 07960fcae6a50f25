import Derived.Test.YthkkinmegileaaaALru3
namespace Go.Proofs.Ythkkinmegileaaa
open Go.RowKit Go.Sort
set_option linter.unusedVariables false
set_option linter.unusedSimpArgs false
set_option maxRecDepth 20000

theorem row_at {w : World} {v : Value} {l : List Nat} {s r : Nat} (h : w.ownsRow 0 3 1 v l.length (l.map nV)) (hs : l[s]? = some r) : ∃ g cap cs, v = .slice (some ⟨g, 0, none⟩) l.length cap ∧ w.cell? ⟨g, s, none⟩ = some (.int .i64 (r : Int)) ∧ w.heap[g]? = some (.cells cs 3 (0, 0)) := by
  have h' := h
  rw [show l.length = (l.map nV).length by simp] at h'
  obtain ⟨g, cap, e, hc⟩ := rowCell (j := s) (x := nV r) h' (by simp [hs])
  rw [List.length_map] at e
  subst e
  obtain ⟨cs, hcs⟩ := rowCells h rfl
  exact ⟨g, cap, cs, rfl, hc, hcs⟩
theorem row_atZ {w : World} {v : Value} {l : List Int} {s : Nat} {r : Int} (h : w.ownsRow 0 3 1 v l.length (l.map iV)) (hs : l[s]? = some r) : ∃ g cap cs, v = .slice (some ⟨g, 0, none⟩) l.length cap ∧ w.cell? ⟨g, s, none⟩ = some (.int .i64 r) ∧ w.heap[g]? = some (.cells cs 3 (0, 0)) := by
  have h' := h
  rw [show l.length = (l.map iV).length by simp] at h'
  obtain ⟨g, cap, e, hc⟩ := rowCell (j := s) (x := iV r) h' (by simp [hs])
  rw [List.length_map] at e
  subst e
  obtain ⟨cs, hcs⟩ := rowCells h rfl
  exact ⟨g, cap, cs, rfl, hc, hcs⟩
/-- a number of references is written -/
theorem LRep.setR {w : World} {p bm g cap : Nat} {kv iv : Value} {S : LS} {s r : Nat} (h : LRep w p bm kv (.slice (some ⟨g, 0, none⟩) S.rs.length cap) iv S) (hs : s < S.rs.length) :
    LRep (w.setCell ⟨g, s, none⟩ (.int .i64 (r : Int))) p bm kv (.slice (some ⟨g, 0, none⟩) S.rs.length cap) iv { S with rs := S.rs.set s r } ∧ Chg (fun b => b = g) w (w.setCell ⟨g, s, none⟩ (.int .i64 (r : Int))) := by
  have hap := h.ap
  have hg := hap.2 g (.inr (.inl rfl))
  have hk : ∀ b, b ≠ g → (w.setCell ⟨g, s, none⟩ (.int .i64 (r : Int))).heap[b]? = w.heap[b]? := fun b hb => Go.heap_setCell_other _ _ _ _ (by exact hb)
  have hr := row_set (i := s) (x := .int .i64 (r : Int)) h.ro hs
  refine ⟨⟨(hk p (fun e => hg.1 e.symm)).trans h.row, h.mp.kept (hk bm (fun e => hg.2 e.symm)), rowKept h.ko fun b e => hk b fun e2 => (h.a1 b e).1 (by rw [e2]; rfl), ?_, rowKept h.io fun b e => hk b fun e2 => h.a2 g rfl (by rw [← e2]; exact e), h.a1, h.a2⟩, ⟨rfl, rfl, rfl, by rw [World.size_setCell]; exact Nat.le_refl _, fun b _ hn => hk b hn⟩⟩
  simp only [List.length_set, List.map_set]
  exact hr
set_option maxHeartbeats 1000000 in
/-- a reference more -/
theorem take_any {w : World} {p bm : Nat} {kv rv iv : Value} {S : LS} {s r M : Nat} (h : LRep w p bm kv rv iv S) (hS : S.Ok M) (hM : M ≤ 4611686018427387904) (hr : S.rs[s]? = some r) :
    Calls Try.prog 77 #[.pointer (some ⟨p, 0, none⟩), .int .i64 (s : Int)] w fun e w' => e = .returned (.tuple #[]) ∧ ∃ iv', LRep w' p bm kv rv iv' (S.take s) ∧ iv'.ownBlock = iv.ownBlock ∧ Chg (LU p bm kv rv iv) w w' := by
  have hrb := hS.rb r (List.mem_of_getElem? hr)
  have hsl : s < S.rs.length := (List.getElem?_eq_some_iff.1 hr).1
  obtain ⟨g, cap, cs, erv, hc, hcs⟩ := row_at h.ro hr
  have c3 := h.c 3
  rw [erv] at c3
  have hg := getD_of hr
  have hcap : S.rs.length ≤ cap ∧ cap ≤ 9223372036854775807 := by
    have := rowForm (erv ▸ h.ro)
    obtain ⟨a', c', e', q1, q2⟩ := this
    simp only [Value.slice.injEq] at e'
    unfold maxLen at q2
    omega
  obtain ⟨hcap1, hcap2⟩ := hcap
  subst erv
  by_cases h0 : r = 0
  · subst h0
    have hmem : s ∈ S.idle := (hS.im s).2 hr
    have HW := hide (wake_any h hS.id hmem)
    have hap := h.ap
    have HNX : Hid (∀ w1 iv', LRep w1 p bm kv (.slice (some ⟨g, 0, none⟩) S.rs.length cap) iv' { S with idle := S.idle.erase s } → Chg (fun b => b = p ∨ iv.ownBlock = some b) w w1 → w1.cell? ⟨p, 3, none⟩ = some (.slice (some ⟨g, 0, none⟩) S.rs.length cap) ∧ w1.cell? ⟨g, s, none⟩ = some (.int .i64 0) ∧ w1.frozen? ⟨g, s, none⟩ = false ∧ LRep (w1.setCell ⟨g, s, none⟩ (.int .i64 1)) p bm kv (.slice (some ⟨g, 0, none⟩) S.rs.length cap) iv' (S.take s) ∧ Chg (LU p bm kv (.slice (some ⟨g, 0, none⟩) S.rs.length cap) iv) w (w1.setCell ⟨g, s, none⟩ (.int .i64 1))) := hide fun w1 iv' q1 q2 => by
      have hkg : w1.heap[g]? = w.heap[g]? := q2.keep g (h.lt g (.inr (.inr (.inr (.inl rfl))))) (by
        rintro (e | e)
        · exact (hap.2 g (.inr (.inl rfl))).1 e
        · exact h.a2 g rfl e)
      have t1 := LRep.setR (S := { S with idle := S.idle.erase s }) (r := 1) q1 hsl
      refine ⟨q1.c 3, by rw [World.cell?_of_block (a := ⟨g, s, none⟩) hkg]; exact hc, frozen_of_row _ _ _ _ 3 (hkg.trans hcs), ?_, (q2.mono fun b _ e => ?_).trans (t1.2.mono fun b _ e => ?_)⟩
      · simp only [LS.take, hg]
        exact t1.1
      · rcases e with e | e
        · exact .inl e
        · exact .inr (.inr (.inr (.inr e)))
      · exact .inr (.inr (.inr (.inl (by rw [e]; rfl))))
    clear h hS hr hcs hmem hap hg
    generalize S.rs.length = n at *
    go_enter Try.func77, Try.ntmps77
    go_wp2_with (first
      | (go_at_call 96; refine HW.out.mono ?_; rintro e w1 ⟨rfl, iv', q1, q2, q3⟩; obtain ⟨t1, t2, t3, t4, t5⟩ := HNX.out _ _ q1 q3; have HR := hide (And.intro t4 (And.intro q2 t5)); clear q1 q2 q3 t4 t5))
    go_end0
    exact ⟨rfl, _, HR.out.1, HR.out.2.1, HR.out.2.2⟩
  · have t1 := LRep.setR (r := r + 1) h hsl
    have hni : s ∉ S.idle := fun e => by rw [(hS.im s).1 e] at hr; simp at hr; omega
    have HR : Hid (LRep (w.setCell ⟨g, s, none⟩ (.int .i64 ((r : Int) + 1))) p bm kv (.slice (some ⟨g, 0, none⟩) S.rs.length cap) iv (S.take s) ∧ Chg (LU p bm kv (.slice (some ⟨g, 0, none⟩) S.rs.length cap) iv) w (w.setCell ⟨g, s, none⟩ (.int .i64 ((r : Int) + 1)))) := hide ⟨by
      simp only [LS.take, hg, List.erase_of_not_mem hni]
      exact t1.1, t1.2.mono fun b _ e => .inr (.inr (.inr (.inl (by rw [e]; rfl))))⟩
    have f1 := frozen_of_row _ _ s _ 3 hcs
    have b0 : ((r : Int) == 0) = false := by simp; omega
    clear h hS hr hcs hg t1 hni h0
    generalize S.rs.length = n at *
    go_enter Try.func77, Try.ntmps77
    go_wp2_with fail
    go_end0
    exact ⟨rfl, _, HR.out.1, rfl, HR.out.2⟩
end Go.Proofs.Ythkkinmegileaaa
