import Derived.Test.YtdjdcpldofmdjaaCNum
namespace Go.Proofs.Ytdjdcpldofmdjaa
open Go.RowKit
set_option linter.unusedVariables false
set_option linter.unusedSimpArgs false
set_option maxRecDepth 20000

def connsN : Nm := [(⟨#[83, 116, 97, 110, 100, 65, 108, 111, 110, 101]⟩, 0), (⟨#[67, 111, 110, 110, 101, 99, 116, 105, 110, 103]⟩, 1), (⟨#[71, 114, 101, 101, 116, 105, 110, 103]⟩, 2), (⟨#[67, 111, 110, 110, 101, 99, 116, 101, 100]⟩, 3), (⟨#[83, 121, 110, 99, 83, 111, 117, 114, 99, 101]⟩, 4), (⟨#[83, 121, 110, 99, 84, 97, 114, 103, 101, 116]⟩, 5), (⟨#[86, 101, 114, 105, 102, 121, 83, 111, 117, 114, 99, 101]⟩, 6), (⟨#[86, 101, 114, 105, 102, 121, 84, 97, 114, 103, 101, 116]⟩, 7)]
def protsN : Nm := [(⟨#[65]⟩, 1), (⟨#[66]⟩, 2), (⟨#[67]⟩, 3)]
def rolesN : Nm := [(⟨#[83, 101, 99, 111, 110, 100, 97, 114, 121]⟩, 0), (⟨#[80, 114, 105, 109, 97, 114, 121]⟩, 1)]
def peersN : Nm := [(⟨#[83, 101, 99, 111, 110, 100, 97, 114, 121]⟩, 0), (⟨#[80, 114, 105, 109, 97, 114, 121]⟩, 1), (⟨#[85, 110, 107, 110, 111, 119, 110]⟩, 2)]
def disksN : Nm := [(⟨#[73, 110, 99, 111, 110, 115, 105, 115, 116, 101, 110, 116]⟩, 0), (⟨#[79, 117, 116, 100, 97, 116, 101, 100]⟩, 1), (⟨#[85, 112, 84, 111, 68, 97, 116, 101]⟩, 2)]
def pdsksN : Nm := [(⟨#[73, 110, 99, 111, 110, 115, 105, 115, 116, 101, 110, 116]⟩, 0), (⟨#[79, 117, 116, 100, 97, 116, 101, 100]⟩, 1), (⟨#[85, 112, 84, 111, 68, 97, 116, 101]⟩, 2), (⟨#[68, 85, 110, 107, 110, 111, 119, 110]⟩, 3)]
/-- a new block of names -/
theorem nml_new {w' : World} {g n : Nat} {cs : Array Value} {ns : Nm} (hg : w'.heap[g]? = some (.cells cs 81 (0, 0))) (hn : ns.length = n) (h63 : n ≤ maxLen) (hc : ∀ i, i < n → cs[i * 2]? = some (.string (ns.getD i default).1) ∧ cs[i * 2 + 1]? = some (.int .i64 (ns.getD i default).2)) : NmL w' (.slice (some ⟨g, 0, none⟩) n n) ns := by
  subst hn
  refine ⟨g, 0, ns.length, rfl, Nat.le_refl _, h63, fun i hi => ?_⟩
  obtain ⟨h1, h2⟩ := hc i hi
  refine ⟨?_, ?_⟩
  · rw [Nat.zero_add, cell_of_row _ _ _ _ _ _ hg]
    exact h1
  · rw [Nat.zero_add, cell_of_row _ _ _ _ _ _ hg]
    exact h2
set_option maxHeartbeats 1000000 in
theorem conns_any (w : World) : Calls Try.prog 35 #[] w fun e w' => ∃ v, e = .returned v ∧ NmL w' v connsN ∧ Below w.heap.size w w' := by
  go_enter Try.func35, Try.ntmps35
  go_wp2
  go_ret
  refine ⟨_, rfl, nml_new (Go.heap_alloc_new w _) rfl (by decide) ?_, (Below.refl _ _).alloc (Nat.le_refl _) _⟩
  intro i hi
  have hc : i = 0 ∨ i = 1 ∨ i = 2 ∨ i = 3 ∨ i = 4 ∨ i = 5 ∨ i = 6 ∨ i = 7 := by omega
  rcases hc with rfl | rfl | rfl | rfl | rfl | rfl | rfl | rfl <;> exact ⟨rfl, rfl⟩
theorem prots_any (w : World) : Calls Try.prog 36 #[] w fun e w' => ∃ v, e = .returned v ∧ NmL w' v protsN ∧ Below w.heap.size w w' := by
  go_enter Try.func36, Try.ntmps36
  go_wp2
  go_ret
  refine ⟨_, rfl, nml_new (Go.heap_alloc_new w _) rfl (by decide) ?_, (Below.refl _ _).alloc (Nat.le_refl _) _⟩
  intro i hi
  have hc : i = 0 ∨ i = 1 ∨ i = 2 := by omega
  rcases hc with rfl | rfl | rfl <;> exact ⟨rfl, rfl⟩
end Go.Proofs.Ytdjdcpldofmdjaa
