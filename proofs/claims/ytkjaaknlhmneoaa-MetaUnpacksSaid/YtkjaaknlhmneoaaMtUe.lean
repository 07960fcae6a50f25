import Derived.Test.YtkjaaknlhmneoaaMtHd
import Derived.Test.YtkjaaknlhmneoaaMtUk
namespace Go.Proofs.Ytkjaaknlhmneoaa
open Go.RowKit
open Num
set_option linter.unusedVariables false
set_option linter.unusedSimpArgs false
set_option maxRecDepth 20000

structure UV (w x : World) (v inV : Value) (Og : Nat) (Bs : List (List Nat)) (gs : List Nat) : Prop where
  ll : LL x v Bs
  hn : HN x inV Bs gs
  ar : AR x Og Bs
  bel : Below w.heap.size w x
theorem UV.step {w x y : World} {v inV : Value} {Og : Nat} {Bs : List (List Nat)} {gs : List Nat} (h : UV w x v inV Og Bs gs) (hb : Below x.heap.size x y) : UV w y v inV Og Bs gs := ⟨h.ll.below hb, h.hn.below hb, h.ar.below hb, h.bel.trans (hb.mono h.bel.size)⟩
theorem usl_nil (x : World) : USl x (.slice none 0 0) [] := ⟨none, 0, rfl, Nat.le_refl _, by unfold maxLen; omega, by simp, by simp⟩
set_option maxHeartbeats 2000000 in
theorem unpacks_err (w : World) (n s : Int) (v : Value) (Bs : List (List Nat)) (hv : LL w v Bs) (hN : Bs.length ≤ 5864062014634) (er : Int)
    (hU : ∀ x Og, AR x Og Bs → Calls Try.prog 17 #[.int .i64 n, .slice (some ⟨Og, 0, none⟩) Bs.length (Bs.length + 1), .int .i64 s] x fun e w' => e = .returned (.tuple #[.slice none 0 0, .bool false, .int .i64 er]) ∧ Below x.heap.size x w')
    (hZ : ∀ x, Calls Try.prog 17 #[.int .i64 n, .slice none 0 0, .int .i64 s] x fun e w' => (∃ z, e = .returned z) ∧ Below x.heap.size x w')
    (hF : ∀ x, LL x v Bs → Calls Try.prog 28 #[.int .i64 n, v, .int .i64 s] x fun e w' => e = .returned (.tuple #[.slice none 0 0, .bool false, .int .i64 er]) ∧ Below x.heap.size x w') :
    Calls Try.prog 8 #[.int .i64 n, v, .int .i64 s] w fun e w' => e = .returned (.bool true) ∧ Below w.heap.size w w' := by
  have HH := hide (handBlocks_any w v Bs hv hN)
  have HAB := hide fun x inV gs (h1 : LL x v Bs) (h2 : HN x inV Bs gs) => argBlocks_any x inV v Bs gs h1 h2 hN
  have HT := hide fun x inV Og gs (h : UV w x v inV Og Bs gs) => untouchedBlocks_any x inV v Og Bs gs h.ll h.hn h.ar hN
  have HU := hide hU
  have HZ := hide hZ
  have HF := hide hF
  have HSW := hide fun x => sameW_any x (.slice none 0 0) (.slice none 0 0) [] (usl_nil x) (usl_nil x)
  have HV := hide hv
  obtain ⟨a, cap, rfl, q1, q2, q3, q4⟩ := id hv
  unfold maxLen at q2
  have hee : (er != er) = false := by simp
  have hee2 : (er == er) = true := by simp
  clear q3 q4 hU hZ hF hv
  generalize hLL : Bs.length = L at *
  clear hLL
  have n6 : ¬ L + 1 = 0 := by omega
  go_enter Try.func8, Try.ntmps8
  go_wp2_with (first
    | (go_at_call 26; refine HH.out.mono ?_; rintro e y1 ⟨inV, gs, rfl, hn1, hb1⟩; have N1 := hide hn1; have B1 := hide hb1; have V1 := hide (HV.out.below hb1); clear hn1 hb1 HH HV)
    | (go_at_call 27; refine (HAB.out _ _ _ V1.out N1.out).mono ?_; rintro e y2 ⟨rfl, ha2, hb2⟩; have W2 : Hid (UV w y2 (.slice a L cap) inV y1.heap.size Bs gs) := hide ⟨V1.out.below hb2, N1.out.below hb2, ha2, B1.out.trans (hb2.mono B1.out.size)⟩; clear ha2 hb2 V1 N1 B1 HAB; generalize y1.heap.size = Og at *)
    | (go_at_call 17; refine (HU.out _ _ W2.out.ar).mono ?_; rintro e y3 ⟨rfl, hb⟩; have W3 := hide (W2.out.step hb); clear hb W2)
    | (go_at_call 17; refine (HU.out _ _ W3.out.ar).mono ?_; rintro e y4 ⟨rfl, hb⟩; have W4 := hide (W3.out.step hb); clear hb W3)
    | (go_at_call 17; refine (HZ.out _).mono ?_; rintro e y5 ⟨⟨z5, rfl⟩, hb⟩; have W5 := hide (W4.out.step hb); clear hb W4 HZ)
    | (go_at_call 28; refine (HF.out _ W5.out.ll).mono ?_; rintro e y6 ⟨rfl, hb⟩; have W6 := hide (W5.out.step hb); clear hb W5 HF)
    | (go_at_call 18; refine (HSW.out _).mono ?_; rintro e y7 ⟨rfl, q7, hy7⟩; have W7 := hide (W6.out.step (y := y7) (by rw [hy7]; exact ⟨rfl, rfl, rfl, Nat.le_refl _, fun _ _ => rfl⟩)); clear hy7 W6)
    | (go_at_call 18; refine (HSW.out _).mono ?_; rintro e y8 ⟨rfl, q8, hy8⟩; have W8 := hide (W7.out.step (y := y8) (by rw [hy8]; exact ⟨rfl, rfl, rfl, Nat.le_refl _, fun _ _ => rfl⟩)); clear hy8 W7)
    | (go_at_call 29; refine (HT.out _ _ _ _ W8.out).mono ?_; rintro e y9 ⟨rfl, hb⟩; have W9 := hide (W8.out.step hb); clear hb W8))
  go_loopw [18] (fun x wr => x = .int .i64 0 ∧ UV w wr (.slice a L cap) inV Og Bs gs) (fun _ _ => 0)
  case atStart => exact ⟨rfl, W9.out⟩
  case round =>
    obtain ⟨rfl, hpw⟩ := hrel
    have W10 := hide hpw
    clear hpw W9
    go_wp2_with fail
    have hbz := (((Below.refl wr.heap.size wr).alloc (Nat.le_refl _) (.cells #[.int .u64 12345, .int .u64 12345] 43)).alloc (by simp) (.cells (#[.int .u64 12345, .int .u64 12345] ++ Builtin.zeroCells #[.int .u64 0] ((Question.appendCap 2 0 43).cut (wr.tape wr.drawn (Question.appendCap 2 0 43)) - 2)) 43)).drew
    have W11 := hide (W10.out.step hbz)
    clear hbz W10
    refine (HU.out _ _ W11.out.ar).mono ?_
    rintro e x1 ⟨rfl, hb⟩
    have W12 := hide (W11.out.step hb)
    clear hb W11 HU
    go_wp2_with (first
      | (go_at_call 18; refine (HSW.out _).mono ?_; rintro e x2 ⟨rfl, q2, hx2⟩; have W13 := hide (W12.out.step (y := x2) (by rw [hx2]; exact ⟨rfl, rfl, rfl, Nat.le_refl _, fun _ _ => rfl⟩)); clear hx2 W12)
      | (go_at_call 18; refine (HSW.out _).mono ?_; rintro e x3 ⟨rfl, q3, hx3⟩; have W14 := hide (W13.out.step (y := x3) (by rw [hx3]; exact ⟨rfl, rfl, rfl, Nat.le_refl _, fun _ _ => rfl⟩)); clear hx3 W13)
      | (go_at_call 29; refine (HT.out _ _ _ _ W14.out).mono ?_; rintro e x4 ⟨rfl, hb⟩; have W15 := hide (W14.out.step hb); clear hb W14))
    go_ret
    exact ⟨by first | rfl | (simp; done), W15.out.bel⟩
end Go.Proofs.Ytkjaaknlhmneoaa
