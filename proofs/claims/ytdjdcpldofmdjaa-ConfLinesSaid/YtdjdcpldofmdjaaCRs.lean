import Derived.Test.YtdjdcpldofmdjaaCRq
import Derived.Test.YtdjdcpldofmdjaaCRo
import Derived.StillTailTactics
namespace Go.Proofs.Ytdjdcpldofmdjaa
open Go.RowKit
set_option linter.unusedVariables false
set_option linter.unusedSimpArgs false
set_option maxRecDepth 20000

theorem leads_some : ∀ k, k < 15 → (leadsL.getD k ⟨#[]⟩).size ≠ 0 := by decide
theorem names_place : ∀ k, k < 15 → ∀ ns, kindsL.getD k none = some ns → ∀ i, i < ns.length → (ns.getD i default).2 = (i : Int) + shf k := by
  intro k hk ns h
  have hc : k = 0 ∨ k = 1 ∨ k = 2 ∨ k = 3 ∨ k = 4 ∨ k = 5 ∨ (6 ≤ k ∧ k < 15) := by omega
  rcases hc with rfl | rfl | rfl | rfl | rfl | rfl | hc
  all_goals first | (cases h; decide) | skip
  exfalso
  have : k = 6 ∨ k = 7 ∨ k = 8 ∨ k = 9 ∨ k = 10 ∨ k = 11 ∨ k = 12 ∨ k = 13 ∨ k = 14 := by omega
  rcases this with rfl | rfl | rfl | rfl | rfl | rfl | rfl | rfl | rfl <;> cases h
theorem one_any {w : World} {x : Value} (t : ByteArray) (i j : Nat) (hj : j < 30) (hx : RwV w (rkd j) x) (ht : t.size ≤ maxLen) (hi : i ≤ t.size) :
    Calls Try.prog 21 #[.string t, .int .i64 (i : Int), .agg #[.string (rtx j), x, .bool (rnb j)]] w fun e w' => e = .returned (.tuple #[.int .i64 ((rOne j ((tx t).drop i)).1 : Nat), .bool (rOne j ((tx t).drop i)).2.1, .int .i64 (rOne j ((tx t).drop i)).2.2]) ∧ Below w.heap.size w w' := by
  have hk : j / 2 < 15 := by omega
  unfold rOne rtx rnb
  unfold rkd at hx
  by_cases h2 : j % 2 = 0
  · rw [if_pos h2] at hx
    have hx' : x = .slice none 0 0 := hx
    subst hx'
    simp only [if_pos h2]
    exact one_text t _ i none 0 0 false ht (leads_small _ hk) (leads_some _ hk) hi
  · rw [if_neg h2] at hx
    simp only [if_neg h2]
    cases hd : kindsL.getD (j / 2) none with
    | none =>
      rw [hd] at hx
      have hx' : x = .slice none 0 0 := hx
      subst hx'
      exact one_num t i none 0 0 ht hi
    | some ns =>
      rw [hd] at hx
      refine (one_words t i (shf (j / 2)) hx (names_place _ hk ns hd) ht hi (names_small _ hk ns hd)).mono fun e w' h => ⟨?_, h.2⟩
      have h1 := h.1
      unfold WOn at h1
      cases hw : chWho ns ((tx t).drop i) with
      | none => rw [hw] at h1; simp only [hw]; exact h1
      | some q => rw [hw] at h1; simp only [hw]; exact h1
theorem results_row {P : Program} {fn : Func} {p : Tmp} {ty : TypeId} (h : fn.results = #[.cell p ty]) (tmps : Array Value) (w : World) (g : Nat) (t : TypeId) (cs : Array Value) (fr : Nat × Nat) (d : TypeDesc)
    (hp : tmps.getD p undef = .pointer (some ⟨g, 0, none⟩)) (hg : w.heap[g]? = some (.cells cs t fr))
    (hu : P.underlying ty = some d) (hd : (match d with | .struct _ | .array _ _ => true | _ => false) = true) (hi : (P.info? ty).map (·.size) = some cs.size) :
    (results fn tmps).run P w = .ok (.agg cs) w := by
  have hp' : tmps[p]?.getD undef = .pointer (some ⟨g, 0, none⟩) := by simpa using hp
  simp [results, h, hp', asAddr, run_loadVar_row w g t ty cs fr d hg hu hd hi]
theorem wp_still_tail {P : Program} {id : Nat} {Q : Exit → Act → World → Prop} {a : Act} {w : World} {l : List Oper} (n : Nat) (hm : P.follows .mixedOrders = true) (hB : Region.lexTailB .any l.toArray n = true)
    (h : wpStill P l.toArray w.drew (fun a' => wpList P l.toArray Q (l.drop n) a' w.drew) (l.take n) a) : (Code.region id l.toArray true).wp P Q a w :=
  wp_region_still_tail n hm hB h
/-- a list of ints, one's own -/
def IRw (w : World) (v : Value) (l : List Int) : Prop := w.ownsRow 0 3 1 v l.length (l.map fun x => Value.int .i64 x)
set_option maxHeartbeats 2000000 in
theorem status_any {w : World} (v : Value) (ns : List Int) (hl : ns.length = 15) (hv : IRw w v ns) :
    Calls Try.prog 22 #[v] w fun e w' => e = .returned (.agg (inv (shl ns))) ∧ Below w.heap.size w w' := by
  unfold IRw at hv
  rw [hl] at hv
  rcases hv.2 with ⟨-, hf⟩ | ⟨g, cap, cur, rfl, -, -, hn, hm, -⟩
  · cases hf
  · have hc : ∀ j u, (ns.map fun x => Value.int .i64 x)[j]? = some u → w.cell? ⟨g, j, none⟩ = some u := fun j u hu => by
      have := hv.cells (g := g) rfl j u hu
      rw [Addr.add_lit] at this
      simpa using this
    match ns, hl with
    | [x0, x1, x2, x3, x4, x5, x6, x7, x8, x9, x10, x11, x12, x13, x14], _ =>
      have c0 := hc 0 _ rfl
      have c1 := hc 1 _ rfl
      have c2 := hc 2 _ rfl
      have c3 := hc 3 _ rfl
      have c4 := hc 4 _ rfl
      have c5 := hc 5 _ rfl
      have c6 := hc 6 _ rfl
      have c7 := hc 7 _ rfl
      have c8 := hc 8 _ rfl
      have c9 := hc 9 _ rfl
      have c10 := hc 10 _ rfl
      have c11 := hc 11 _ rfl
      have c12 := hc 12 _ rfl
      have c13 := hc 13 _ rfl
      have c14 := hc 14 _ rfl
      unfold maxLen at hm
      obtain ⟨w1, hw1⟩ : ∃ w1, w.alloc (.cells (inv zS) 23) = w1 := ⟨_, rfl⟩
      have hb1 : Below w.heap.size w w1 := by rw [← hw1]; exact (Below.refl _ _).alloc (Nat.le_refl _) _
      have hr1 : w1.heap[w.heap.size]? = some (.cells (inv zS) 23 (0, 0)) := by rw [← hw1]; exact Go.heap_alloc_new w _
      simp only [inv, zS, List.replicate, List.map_cons, List.map_nil] at hw1
      have HW1 := hide hw1
      replace c0 := cell_bel hb1 c0
      replace c1 := cell_bel hb1 c1
      replace c2 := cell_bel hb1 c2
      replace c3 := cell_bel hb1 c3
      replace c4 := cell_bel hb1 c4
      replace c5 := cell_bel hb1 c5
      replace c6 := cell_bel hb1 c6
      replace c7 := cell_bel hb1 c7
      replace c8 := cell_bel hb1 c8
      replace c9 := cell_bel hb1 c9
      replace c10 := cell_bel hb1 c10
      replace c11 := cell_bel hb1 c11
      replace c12 := cell_bel hb1 c12
      replace c13 := cell_bel hb1 c13
      replace c14 := cell_bel hb1 c14
      have HB1 := hide hb1
      have HR1 := hide hr1
      clear hc hv hb1 hr1 hw1
      go_enter Try.func22, Try.ntmps22
      go_wp2_with fail
      rw [HW1.out]
      clear HW1
      generalize hN : w.heap.size = N at *
      have HN := hide hN
      clear hN
      refine wp_still_tail 47 (by kernel_rfl) (by kernel_rfl) ?_
      simp only [List.take_succ_cons, List.take_zero, List.drop_succ_cons, List.drop_zero]
      repeat still_step
      refine wpStill_nil ?_
      go_wp2_with (refine wpList_store_row rfl 23 (.tmp 2) _ rfl N (inv (shl [x0, x1, x2, x3, x4, x5, x6, x7, x8, x9, x10, x11, x12, x13, x14])) rfl rfl 23 (inv zS) HR1.out (inv_size rfl) rfl (inv_one _) ?_)
      have k9 := setRow_heap w1.drew N (inv zS) (inv (shl [x0, x1, x2, x3, x4, x5, x6, x7, x8, x9, x10, x11, x12, x13, x14])) 23 (0, 0) HR1.out
      refine bodyPost_ret (results_row rfl _ _ N 23 _ (0, 0) _ rfl k9 Try.underlying23 rfl (inv_size rfl)) rfl ?_
      exact ⟨rfl, by rw [HN.out]; exact setRow_bel HB1.out.drew⟩
end Go.Proofs.Ytdjdcpldofmdjaa
