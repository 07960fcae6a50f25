import Derived.Test.YtdjdcpldofmdjaaCPf
namespace Go.Proofs.Ytdjdcpldofmdjaa
open Go.RowKit
set_option linter.unusedVariables false
set_option linter.unusedSimpArgs false
set_option maxRecDepth 20000

set_option maxHeartbeats 1000000 in
theorem s_fin (p R i : Nat) (o : Oper) (ho : o.op = .buildSlice 40 15 #[(0, .tmp 18), (1, .tmp 25), (2, .tmp 36), (3, .tmp 43), (4, .tmp 54), (5, .tmp 61), (6, .tmp 67), (7, .tmp 73), (8, .tmp 79), (9, .tmp 85), (10, .tmp 91), (11, .tmp 97), (12, .tmp 103), (13, .tmp 109), (14, .tmp 115)]) (hm : ∀ t ∈ [18, 25, 36, 43, 54, 61, 67, 73, 79, 85, 91, 97, 103, 109, 115], Aft o t) (hT : (prtTab p R).getD i (.ex undef) = .fin p) : StepP p R i o := fun a w Q h0 h3 h4 hr hk hd => by
  obtain ⟨u0, n0, e0⟩ := dep (t := 18) (d := .nm connsN (fun u => .agg #[.string ⟨#[99, 115, 58]⟩, .iface 86 (.agg #[.pointer (some ⟨p, 0, none⟩), u])])) hd _ rfl (by decide) (hm 18 (by simp)) rfl
  obtain ⟨u1, n1, e1⟩ := dep (t := 25) (d := .nm rolesN (fun u => .agg #[.string ⟨#[32, 114, 111, 58]⟩, .iface 86 (.agg #[.pointer (some ⟨p, 1, none⟩), u])])) hd _ rfl (by decide) (hm 25 (by simp)) rfl
  obtain ⟨u2, n2, e2⟩ := dep (t := 36) (d := .nm peersN (fun u => .agg #[.string ⟨#[47]⟩, .iface 86 (.agg #[.pointer (some ⟨p, 2, none⟩), u])])) hd _ rfl (by decide) (hm 36 (by simp)) rfl
  obtain ⟨u3, n3, e3⟩ := dep (t := 43) (d := .nm disksN (fun u => .agg #[.string ⟨#[32, 100, 115, 58]⟩, .iface 86 (.agg #[.pointer (some ⟨p, 3, none⟩), u])])) hd _ rfl (by decide) (hm 43 (by simp)) rfl
  obtain ⟨u4, n4, e4⟩ := dep (t := 54) (d := .nm pdsksN (fun u => .agg #[.string ⟨#[47]⟩, .iface 86 (.agg #[.pointer (some ⟨p, 4, none⟩), u])])) hd _ rfl (by decide) (hm 54 (by simp)) rfl
  obtain ⟨u5, n5, e5⟩ := dep (t := 61) (d := .nm protsN (fun u => .agg #[.string ⟨#[32]⟩, .iface 86 (.agg #[.pointer (some ⟨p, 5, none⟩), u])])) hd _ rfl (by decide) (hm 61 (by simp)) rfl
  have e6 : a.eval (.tmp 67) = .agg #[.string ⟨#[32, 110, 115, 58]⟩, .iface 88 (.agg #[.pointer (some ⟨p, 6, none⟩)])] := dep (d := .ex (.agg #[.string ⟨#[32, 110, 115, 58]⟩, .iface 88 (.agg #[.pointer (some ⟨p, 6, none⟩)])])) hd _ rfl (by decide) (hm 67 (by simp)) rfl
  have e7 : a.eval (.tmp 73) = .agg #[.string ⟨#[32, 110, 114, 58]⟩, .iface 88 (.agg #[.pointer (some ⟨p, 7, none⟩)])] := dep (d := .ex (.agg #[.string ⟨#[32, 110, 114, 58]⟩, .iface 88 (.agg #[.pointer (some ⟨p, 7, none⟩)])])) hd _ rfl (by decide) (hm 73 (by simp)) rfl
  have e8 : a.eval (.tmp 79) = .agg #[.string ⟨#[32, 100, 119, 58]⟩, .iface 88 (.agg #[.pointer (some ⟨p, 8, none⟩)])] := dep (d := .ex (.agg #[.string ⟨#[32, 100, 119, 58]⟩, .iface 88 (.agg #[.pointer (some ⟨p, 8, none⟩)])])) hd _ rfl (by decide) (hm 79 (by simp)) rfl
  have e9 : a.eval (.tmp 85) = .agg #[.string ⟨#[32, 100, 114, 58]⟩, .iface 88 (.agg #[.pointer (some ⟨p, 9, none⟩)])] := dep (d := .ex (.agg #[.string ⟨#[32, 100, 114, 58]⟩, .iface 88 (.agg #[.pointer (some ⟨p, 9, none⟩)])])) hd _ rfl (by decide) (hm 85 (by simp)) rfl
  have e10 : a.eval (.tmp 91) = .agg #[.string ⟨#[32, 97, 108, 58]⟩, .iface 88 (.agg #[.pointer (some ⟨p, 10, none⟩)])] := dep (d := .ex (.agg #[.string ⟨#[32, 97, 108, 58]⟩, .iface 88 (.agg #[.pointer (some ⟨p, 10, none⟩)])])) hd _ rfl (by decide) (hm 91 (by simp)) rfl
  have e11 : a.eval (.tmp 97) = .agg #[.string ⟨#[32, 97, 112, 58]⟩, .iface 88 (.agg #[.pointer (some ⟨p, 11, none⟩)])] := dep (d := .ex (.agg #[.string ⟨#[32, 97, 112, 58]⟩, .iface 88 (.agg #[.pointer (some ⟨p, 11, none⟩)])])) hd _ rfl (by decide) (hm 97 (by simp)) rfl
  have e12 : a.eval (.tmp 103) = .agg #[.string ⟨#[32, 117, 97, 58]⟩, .iface 88 (.agg #[.pointer (some ⟨p, 12, none⟩)])] := dep (d := .ex (.agg #[.string ⟨#[32, 117, 97, 58]⟩, .iface 88 (.agg #[.pointer (some ⟨p, 12, none⟩)])])) hd _ rfl (by decide) (hm 103 (by simp)) rfl
  have e13 : a.eval (.tmp 109) = .agg #[.string ⟨#[32, 101, 112, 58]⟩, .iface 88 (.agg #[.pointer (some ⟨p, 13, none⟩)])] := dep (d := .ex (.agg #[.string ⟨#[32, 101, 112, 58]⟩, .iface 88 (.agg #[.pointer (some ⟨p, 13, none⟩)])])) hd _ rfl (by decide) (hm 109 (by simp)) rfl
  have e14 : a.eval (.tmp 115) = .agg #[.string ⟨#[32, 111, 111, 115, 58]⟩, .iface 88 (.agg #[.pointer (some ⟨p, 14, none⟩)])] := dep (d := .ex (.agg #[.string ⟨#[32, 111, 111, 115, 58]⟩, .iface 88 (.agg #[.pointer (some ⟨p, 14, none⟩)])])) hd _ rfl (by decide) (hm 115 (by simp)) rfl
  dsimp only at e0 e1 e2 e3 e4 e5
  obtain ⟨g0, f0, c0, x0, m0⟩ := n0
  have n0 : NmL w u0 connsN := ⟨g0, f0, c0, x0, m0⟩
  obtain ⟨g1, f1, c1, x1, m1⟩ := n1
  have n1 : NmL w u1 rolesN := ⟨g1, f1, c1, x1, m1⟩
  obtain ⟨g2, f2, c2, x2, m2⟩ := n2
  have n2 : NmL w u2 peersN := ⟨g2, f2, c2, x2, m2⟩
  obtain ⟨g3, f3, c3, x3, m3⟩ := n3
  have n3 : NmL w u3 disksN := ⟨g3, f3, c3, x3, m3⟩
  obtain ⟨g4, f4, c4, x4, m4⟩ := n4
  have n4 : NmL w u4 pdsksN := ⟨g4, f4, c4, x4, m4⟩
  obtain ⟨g5, f5, c5, x5, m5⟩ := n5
  have n5 : NmL w u5 protsN := ⟨g5, f5, c5, x5, m5⟩
  have hrun : (execOp a.eval o).run Try.prog w = .ok (.value (.slice (some ⟨w.heap.size, 0, none⟩) 15 15)) (w.alloc (.cells #[.string ⟨#[99, 115, 58]⟩, .iface 86 (.agg #[.pointer (some ⟨p, 0, none⟩), u0]), .string ⟨#[32, 114, 111, 58]⟩, .iface 86 (.agg #[.pointer (some ⟨p, 1, none⟩), u1]), .string ⟨#[47]⟩, .iface 86 (.agg #[.pointer (some ⟨p, 2, none⟩), u2]), .string ⟨#[32, 100, 115, 58]⟩, .iface 86 (.agg #[.pointer (some ⟨p, 3, none⟩), u3]), .string ⟨#[47]⟩, .iface 86 (.agg #[.pointer (some ⟨p, 4, none⟩), u4]), .string ⟨#[32]⟩, .iface 86 (.agg #[.pointer (some ⟨p, 5, none⟩), u5]), .string ⟨#[32, 110, 115, 58]⟩, .iface 88 (.agg #[.pointer (some ⟨p, 6, none⟩)]), .string ⟨#[32, 110, 114, 58]⟩, .iface 88 (.agg #[.pointer (some ⟨p, 7, none⟩)]), .string ⟨#[32, 100, 119, 58]⟩, .iface 88 (.agg #[.pointer (some ⟨p, 8, none⟩)]), .string ⟨#[32, 100, 114, 58]⟩, .iface 88 (.agg #[.pointer (some ⟨p, 9, none⟩)]), .string ⟨#[32, 97, 108, 58]⟩, .iface 88 (.agg #[.pointer (some ⟨p, 10, none⟩)]), .string ⟨#[32, 97, 112, 58]⟩, .iface 88 (.agg #[.pointer (some ⟨p, 11, none⟩)]), .string ⟨#[32, 117, 97, 58]⟩, .iface 88 (.agg #[.pointer (some ⟨p, 12, none⟩)]), .string ⟨#[32, 101, 112, 58]⟩, .iface 88 (.agg #[.pointer (some ⟨p, 13, none⟩)]), .string ⟨#[32, 111, 111, 115, 58]⟩, .iface 88 (.agg #[.pointer (some ⟨p, 14, none⟩)])] 46)) := by
    clear hd h0 h3 h4
    revert e0 e1 e2 e3 e4 e5 e6 e7 e8 e9 e10 e11 e12 e13 e14
    generalize a.eval = ev
    intro e0 e1 e2 e3 e4 e5 e6 e7 e8 e9 e10 e11 e12 e13 e14
    cases o
    cases ho
    simp [execOp, e0, e1, e2, e3, e4, e5, e6, e7, e8, e9, e10, e11, e12, e13, e14, go_sem]
  have hal : Below w.heap.size w (w.alloc (.cells #[.string ⟨#[99, 115, 58]⟩, .iface 86 (.agg #[.pointer (some ⟨p, 0, none⟩), u0]), .string ⟨#[32, 114, 111, 58]⟩, .iface 86 (.agg #[.pointer (some ⟨p, 1, none⟩), u1]), .string ⟨#[47]⟩, .iface 86 (.agg #[.pointer (some ⟨p, 2, none⟩), u2]), .string ⟨#[32, 100, 115, 58]⟩, .iface 86 (.agg #[.pointer (some ⟨p, 3, none⟩), u3]), .string ⟨#[47]⟩, .iface 86 (.agg #[.pointer (some ⟨p, 4, none⟩), u4]), .string ⟨#[32]⟩, .iface 86 (.agg #[.pointer (some ⟨p, 5, none⟩), u5]), .string ⟨#[32, 110, 115, 58]⟩, .iface 88 (.agg #[.pointer (some ⟨p, 6, none⟩)]), .string ⟨#[32, 110, 114, 58]⟩, .iface 88 (.agg #[.pointer (some ⟨p, 7, none⟩)]), .string ⟨#[32, 100, 119, 58]⟩, .iface 88 (.agg #[.pointer (some ⟨p, 8, none⟩)]), .string ⟨#[32, 100, 114, 58]⟩, .iface 88 (.agg #[.pointer (some ⟨p, 9, none⟩)]), .string ⟨#[32, 97, 108, 58]⟩, .iface 88 (.agg #[.pointer (some ⟨p, 10, none⟩)]), .string ⟨#[32, 97, 112, 58]⟩, .iface 88 (.agg #[.pointer (some ⟨p, 11, none⟩)]), .string ⟨#[32, 117, 97, 58]⟩, .iface 88 (.agg #[.pointer (some ⟨p, 12, none⟩)]), .string ⟨#[32, 101, 112, 58]⟩, .iface 88 (.agg #[.pointer (some ⟨p, 13, none⟩)]), .string ⟨#[32, 111, 111, 115, 58]⟩, .iface 88 (.agg #[.pointer (some ⟨p, 14, none⟩)])] 46)) := (Below.refl _ _).alloc (Nat.le_refl _) _
  have hg := Go.heap_alloc_new w (.cells #[.string ⟨#[99, 115, 58]⟩, .iface 86 (.agg #[.pointer (some ⟨p, 0, none⟩), u0]), .string ⟨#[32, 114, 111, 58]⟩, .iface 86 (.agg #[.pointer (some ⟨p, 1, none⟩), u1]), .string ⟨#[47]⟩, .iface 86 (.agg #[.pointer (some ⟨p, 2, none⟩), u2]), .string ⟨#[32, 100, 115, 58]⟩, .iface 86 (.agg #[.pointer (some ⟨p, 3, none⟩), u3]), .string ⟨#[47]⟩, .iface 86 (.agg #[.pointer (some ⟨p, 4, none⟩), u4]), .string ⟨#[32]⟩, .iface 86 (.agg #[.pointer (some ⟨p, 5, none⟩), u5]), .string ⟨#[32, 110, 115, 58]⟩, .iface 88 (.agg #[.pointer (some ⟨p, 6, none⟩)]), .string ⟨#[32, 110, 114, 58]⟩, .iface 88 (.agg #[.pointer (some ⟨p, 7, none⟩)]), .string ⟨#[32, 100, 119, 58]⟩, .iface 88 (.agg #[.pointer (some ⟨p, 8, none⟩)]), .string ⟨#[32, 100, 114, 58]⟩, .iface 88 (.agg #[.pointer (some ⟨p, 9, none⟩)]), .string ⟨#[32, 97, 108, 58]⟩, .iface 88 (.agg #[.pointer (some ⟨p, 10, none⟩)]), .string ⟨#[32, 97, 112, 58]⟩, .iface 88 (.agg #[.pointer (some ⟨p, 11, none⟩)]), .string ⟨#[32, 117, 97, 58]⟩, .iface 88 (.agg #[.pointer (some ⟨p, 12, none⟩)]), .string ⟨#[32, 101, 112, 58]⟩, .iface 88 (.agg #[.pointer (some ⟨p, 13, none⟩)]), .string ⟨#[32, 111, 111, 115, 58]⟩, .iface 88 (.agg #[.pointer (some ⟨p, 14, none⟩)])] 46)
  refine opv' hrun ⟨_, rfl, ?_, hal⟩
  rw [hT]
  refine ⟨w.heap.size, rfl, fun k hk => ?_⟩
  have hc : k = 0 ∨ k = 1 ∨ k = 2 ∨ k = 3 ∨ k = 4 ∨ k = 5 ∨ k = 6 ∨ k = 7 ∨ k = 8 ∨ k = 9 ∨ k = 10 ∨ k = 11 ∨ k = 12 ∨ k = 13 ∨ k = 14 := by omega
  rcases hc with rfl | rfl | rfl | rfl | rfl | rfl | rfl | rfl | rfl | rfl | rfl | rfl | rfl | rfl | rfl
  · exact ⟨cell_of_row _ _ _ _ _ _ hg, _, cell_of_row _ _ _ _ _ _ hg, ⟨_, n0.below hal, rfl⟩⟩
  · exact ⟨cell_of_row _ _ _ _ _ _ hg, _, cell_of_row _ _ _ _ _ _ hg, ⟨_, n1.below hal, rfl⟩⟩
  · exact ⟨cell_of_row _ _ _ _ _ _ hg, _, cell_of_row _ _ _ _ _ _ hg, ⟨_, n2.below hal, rfl⟩⟩
  · exact ⟨cell_of_row _ _ _ _ _ _ hg, _, cell_of_row _ _ _ _ _ _ hg, ⟨_, n3.below hal, rfl⟩⟩
  · exact ⟨cell_of_row _ _ _ _ _ _ hg, _, cell_of_row _ _ _ _ _ _ hg, ⟨_, n4.below hal, rfl⟩⟩
  · exact ⟨cell_of_row _ _ _ _ _ _ hg, _, cell_of_row _ _ _ _ _ _ hg, ⟨_, n5.below hal, rfl⟩⟩
  · exact ⟨cell_of_row _ _ _ _ _ _ hg, _, cell_of_row _ _ _ _ _ _ hg, rfl⟩
  · exact ⟨cell_of_row _ _ _ _ _ _ hg, _, cell_of_row _ _ _ _ _ _ hg, rfl⟩
  · exact ⟨cell_of_row _ _ _ _ _ _ hg, _, cell_of_row _ _ _ _ _ _ hg, rfl⟩
  · exact ⟨cell_of_row _ _ _ _ _ _ hg, _, cell_of_row _ _ _ _ _ _ hg, rfl⟩
  · exact ⟨cell_of_row _ _ _ _ _ _ hg, _, cell_of_row _ _ _ _ _ _ hg, rfl⟩
  · exact ⟨cell_of_row _ _ _ _ _ _ hg, _, cell_of_row _ _ _ _ _ _ hg, rfl⟩
  · exact ⟨cell_of_row _ _ _ _ _ _ hg, _, cell_of_row _ _ _ _ _ _ hg, rfl⟩
  · exact ⟨cell_of_row _ _ _ _ _ _ hg, _, cell_of_row _ _ _ _ _ _ hg, rfl⟩
  · exact ⟨cell_of_row _ _ _ _ _ _ hg, _, cell_of_row _ _ _ _ _ _ hg, rfl⟩
end Go.Proofs.Ytdjdcpldofmdjaa
