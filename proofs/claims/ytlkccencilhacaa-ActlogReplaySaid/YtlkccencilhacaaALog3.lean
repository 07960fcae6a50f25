import Derived.Test.YtlkccencilhacaaALog2
namespace Go.Proofs.Ytlkccencilhacaa
open Go.RowKit Go.Sort
set_option linter.unusedVariables false
set_option linter.unusedSimpArgs false
set_option maxRecDepth 20000

set_option maxHeartbeats 1000000 in
theorem slots_any {w : World} {lp p bm M : Nat} {kv rv iv : Value} {S : LS} {ext size first written : Nat} (h : LgR w lp p bm kv rv iv S ext size first written) (hS : S.Ok M) :
    Calls Try.prog 25 #[.pointer (some ⟨lp, 0, none⟩)] w fun e w' => ∃ zs : List Int, zs.length = S.slots ∧ e = .returned (.slice (some ⟨w.heap.size, 0, none⟩) S.slots S.slots) ∧ w'.heap[w.heap.size]? = some (.cells (ints zs) 3 (0, 0)) ∧ zs = S.ks ++ List.replicate (S.slots - S.ks.length) (-1) ∧ Below w.heap.size w w' := by
  have c0 : w.cell? ⟨lp, 0, none⟩ = some (.pointer (some ⟨p, 0, none⟩)) := h.c 0
  have d0 : w.cell? ⟨p, 0, none⟩ = some (.int .i64 (S.slots : Int)) := h.l.c 0
  have HF := hide (freeRow_any w S.slots hS.s1 hS.s2)
  have HB : Hid (∀ x, Below w.heap.size w x → LgR x lp p bm kv rv iv S ext size first written) := hide fun x hx => h.below hx
  have hs1 := hS.s1
  have hs2 := hS.s2
  have hkl := hS.kl
  obtain ⟨ak, ck, ekv, hk1, hk2⟩ := rowForm h.l.ko
  subst ekv
  have HSRC : Hid (∀ x, Below w.heap.size w x → 0 < (S.ks.map iV).length → ∃ ad, ak = some ad ∧ ∀ j v, (S.ks.map iV)[j]? = some v → x.cell? (ad.add j) = some v) := hide fun x hx hpos => by
    have hko := (h.below hx).l.ko
    have hl : (S.ks.map iV).length = S.ks.length := List.length_map _
    cases hak : ak with
    | none =>
      rw [hak] at hko
      rcases hko.2 with ⟨_, e⟩ | ⟨g, cap, cur, e, _⟩
      · omega
      · simp at e
    | some ad =>
      rw [hak] at hko
      rcases hko.2 with ⟨e, _⟩ | ⟨g, cap, cur, e, _⟩
      · simp at e
      · simp only [Value.slice.injEq, Option.some.injEq] at e
        obtain ⟨rfl, -, rfl⟩ := e
        refine ⟨_, rfl, fun j v hj => ?_⟩
        have hjl : j < S.ks.length := by have := (List.getElem?_eq_some_iff.1 hj).1; omega
        have := hko.cellAt j (by omega)
        rw [hj] at this
        rw [Addr.add_lit]
        simpa using this
  have HFIN : Hid (∀ w' : World, w'.heap[w.heap.size]? = some (.cells (splice ((List.replicate S.slots (-1 : Int)).map iV) 0 (S.ks.map iV)).toArray 3 (0, 0)) → w'.heap[w.heap.size]? = some (.cells (ints (S.ks ++ List.replicate (S.slots - S.ks.length) (-1))) 3 (0, 0))) := hide fun w' hw => by
    have e : splice ((List.replicate S.slots (-1 : Int)).map iV) 0 (S.ks.map iV) = (S.ks ++ List.replicate (S.slots - S.ks.length) (-1)).map iV := by
      simp [splice]
    rw [e] at hw
    exact hw
  have HLEN : Hid ((S.ks ++ List.replicate (S.slots - S.ks.length) (-1 : Int)).length = S.slots) := hide (by simp; omega)
  have hcl : (S.ks.map iV).length = Nat.min S.ks.length S.slots := by rw [List.length_map]; exact (Nat.min_eq_left hkl).symm
  have hfit : 0 + (S.ks.map iV).length ≤ ((List.replicate S.slots (-1 : Int)).map iV).length := by simp; exact hkl
  have hone : ∀ v ∈ S.ks.map iV, v.oneCell' = true := fun v hv => by
    obtain ⟨z, -, rfl⟩ := List.mem_map.1 hv
    rfl
  have HCL := hide (And.intro hcl (And.intro hfit hone))
  clear hcl hfit hone h hS
  go_enter Try.func25, Try.ntmps25
  go_wp2_with (first
    | (go_at_call 38; refine HF.out.mono ?_; rintro e w1 ⟨rfl, g1, g2⟩; have HG := hide (And.intro g1 g2); have e0 : w1.cell? ⟨lp, 0, none⟩ = some (.pointer (some ⟨p, 0, none⟩)) := (HB.out _ g2).c 0; have e2 : w1.cell? ⟨p, 2, none⟩ = some (.slice ak S.ks.length ck) := (HB.out _ g2).l.c 2; clear g1 g2 HF)
    | ((refine wpList_copy_splice rfl (.tmp 12) (.tmp 19) 25 25 rfl 3 Try.underlying25 (by kernel_rfl) (some ⟨w.heap.size, 0, none⟩) ak S.slots S.slots S.ks.length ck rfl rfl w.heap.size 0 ((List.replicate S.slots (-1 : Int)).map iV) 3 HG.out.1 (S.ks.map iV) HCL.out.1 (fun hp => ⟨rfl, HSRC.out _ HG.out.2 hp⟩) HCL.out.2.1 HCL.out.2.2 w.heap.size w HG.out.2 (Nat.le_refl _) ?_; intro w5 HG5 hb5; have HE := hide (And.intro (HFIN.out _ HG5.out) hb5); clear HG5 hb5 HFIN HSRC HG e0 e2)))
  go_ret
  exact ⟨_, HLEN.out, rfl, HE.out.1, rfl, HE.out.2⟩
end Go.Proofs.Ytlkccencilhacaa
