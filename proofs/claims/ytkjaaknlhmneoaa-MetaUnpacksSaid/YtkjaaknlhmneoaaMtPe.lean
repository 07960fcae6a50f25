import Derived.Test.YtkjaaknlhmneoaaMtGrA
import Derived.Test.YtkjaaknlhmneoaaMtHw4
import Derived.Test.YtkjaaknlhmneoaaMtPk2
namespace Go.Proofs.Ytkjaaknlhmneoaa
open Go.RowKit
open Num
set_option linter.unusedVariables false
set_option linter.unusedSimpArgs false
set_option maxRecDepth 20000

theorem USl.made (W : World) (L : Nat) (hL : L ≤ maxLen) : USl (W.alloc (.cells ((List.replicate L 0).map u64v).toArray 43)) (.slice (some ⟨W.heap.size, 0, none⟩) L L) (List.replicate L 0) := by
  refine ⟨some ⟨W.heap.size, 0, none⟩, L, by simp, by simp, hL, fun x hx => by rw [List.eq_of_mem_replicate hx]; decide, fun hp => ⟨W.heap.size, 0, rfl, by simp, fun i hi => ?_⟩⟩
  rw [cell_of_row _ _ _ _ _ _ (Go.heap_alloc_new W _), List.getElem?_toArray, Nat.zero_add, List.getElem?_map, List.getD_eq_getElem?_getD, List.getElem?_eq_getElem hi]
  rfl
/-- the world of the law, while it goes on: the words that came in, and the list that is handed in -/
structure PW (w x : World) (v : Value) (ws : List Nat) : Prop where
  us : USl x v ws
  row : WRow x w.heap.size (ws ++ wmarks)
  bel : Below w.heap.size w x
theorem PW.step {w x y : World} {v : Value} {ws : List Nat} (h : PW w x v ws) (hb : Below x.heap.size x y) : PW w y v ws := ⟨h.us.below hb, h.row.below hb, h.bel.trans (hb.mono h.bel.size)⟩
def nilB : Value := .slice none 0 0
set_option maxHeartbeats 2000000 in
theorem packs_err (w : World) (n s : Int) (v : Value) (ws : List Nat) (hv : USl w v ws) (hl : ws.length ≤ 17592186044416) (er : Int)
    (hP : ∀ y u, USl y u ws → Calls Try.prog 15 #[.int .i64 n, u, .int .i64 s] y fun e w' => e = .returned (.tuple #[.slice none 0 0, .int .i64 er]) ∧ Below y.heap.size y w')
    (hZ : ∀ y u, USl y u (List.replicate ws.length 0) → Calls Try.prog 15 #[.int .i64 n, u, .int .i64 s] y fun e w' => (∃ x, e = .returned x) ∧ Below y.heap.size y w')
    (hF : ∀ y, USl y v ws → Calls Try.prog 22 #[.int .i64 n, v, .int .i64 s] y fun e w' => e = .returned (.tuple #[.slice none 0 0, .int .i64 er]) ∧ Below y.heap.size y w') :
    Calls Try.prog 7 #[.int .i64 n, v, .int .i64 s] w fun e w' => e = .returned (.bool true) ∧ Below w.heap.size w w' := by
  have HH := hide (handWords_any w v ws hv hl)
  have HA := hide fun y (h : PW w y v ws) => argWords_any (w := y) (g := w.heap.size) h.us h.row hl
  have HT := hide fun y (h : PW w y v ws) => untouchedWords_any (w := y) (g := w.heap.size) h.us h.row hl
  have HP := hide hP
  have HZ := hide hZ
  have HF := hide hF
  have HSB := hide fun y => sameBlocks_nil y
  obtain ⟨a, cap, rfl, q1, q2, q3, q4⟩ := id hv
  obtain ⟨Z, hZZ⟩ : ∃ Z, ((List.replicate ws.length 0).map u64v).toArray = Z := ⟨_, rfl⟩
  have hmk := fun W => made_wordsL ws.length (by omega) W
  have HUM := hide fun W => USl.made W ws.length (by unfold maxLen; omega)
  rw [hZZ] at hmk HUM
  have HUS := hide hv
  have hee : (er != er) = false := by simp
  have hee2 : (er == er) = true := by simp
  clear hZZ q1 q2 q3 q4 hP hZ hF hv
  generalize hLL : ws.length = L at *
  clear hLL
  go_enter Try.func7, Try.ntmps7
  go_wp2_with (first
    | (go_at_call 20; refine HH.out.mono ?_; rintro e y1 ⟨rfl, hr1, hb1⟩; have W1 : Hid (PW w y1 (.slice a L cap) ws) := hide ⟨HUS.out.below hb1, hr1, hb1⟩; clear hr1 hb1 HH HUS)
    | (go_at_call 21; refine (HA.out _ W1.out).mono ?_; rintro e z1 ⟨u1, rfl, hz1, hu1⟩; have hws := hz1.symm; clear hz1; subst hws; have U1 := hide hu1; clear hu1)
    | (go_at_call 15; refine (HP.out _ _ U1.out).mono ?_; rintro e y2 ⟨rfl, hb⟩; have W2 := hide (W1.out.step hb); clear hb U1 W1)
    | (go_at_call 21; refine (HA.out _ W2.out).mono ?_; rintro e z2 ⟨u2, rfl, hz2, hu2⟩; have hws := hz2.symm; clear hz2; subst hws; have U2 := hide hu2; clear hu2)
    | (go_at_call 15; refine (HP.out _ _ U2.out).mono ?_; rintro e y3 ⟨rfl, hb⟩; have W3 := hide (W2.out.step hb); clear hb U2 W2)
    | (go_at_call 15; refine (HZ.out _ _ (HUM.out y3)).mono ?_; rintro e y4 ⟨⟨x4, rfl⟩, hb⟩; have hbz := (Below.refl y3.heap.size y3).alloc (Nat.le_refl _) (.cells Z 43); have W4 := hide ((W3.out.step hbz).step hb); clear hb hbz W3 HZ HUM)
    | (go_at_call 22; refine (HF.out _ W4.out.us).mono ?_; rintro e y5 ⟨rfl, hb⟩; have W5 := hide (W4.out.step hb); clear hb W4 HF)
    | (go_at_call 23; refine (HSB.out _).mono ?_; rintro e z ⟨rfl, hz⟩; have hws := hz.symm; clear hz; subst hws)
    | (go_at_call 24; refine (HT.out _ W5.out).mono ?_; rintro e y6 ⟨rfl, q6, hy6⟩; have W6 := hide (W5.out.step (y := y6) (by rw [hy6]; exact ⟨rfl, rfl, rfl, Nat.le_refl _, fun _ _ => rfl⟩)); clear hy6 W5 HT))
  go_loopw [14] (fun x wr => x = .int .i64 0 ∧ PW w wr (.slice a L cap) ws) (fun _ _ => 0)
  case atStart => exact ⟨rfl, W6.out⟩
  case round =>
    obtain ⟨rfl, hpw⟩ := hrel
    have W7 := hide hpw
    clear hpw W6
    go_wp2_with fail
    go_loopw [16] (fun x wr => x = .int .i64 0 ∧ PW w wr (.slice a L cap) ws) (fun _ _ => 0)
    case atStart => exact ⟨rfl, W7.out⟩
    case round =>
      obtain ⟨rfl, hpw⟩ := hrel
      have W8 := hide hpw
      clear hpw W7
      go_wp2_with (first
        | (go_at_call 21; refine (HA.out _ W8.out).mono ?_; rintro e z8 ⟨u8, rfl, hz8, hu8⟩; have hws := hz8.symm; clear hz8; subst hws; have U8 := hide hu8; clear hu8)
        | (go_at_call 15; refine (HP.out _ _ U8.out).mono ?_; rintro e y9 ⟨rfl, hb⟩; have W9 := hide (W8.out.step hb); clear hb U8 W8)
        | (go_at_call 23; refine (HSB.out _).mono ?_; rintro e z ⟨rfl, hz⟩; have hws := hz.symm; clear hz; subst hws))
      go_ret
      exact ⟨by first | rfl | (simp; done), W9.out.bel⟩
end Go.Proofs.Ytkjaaknlhmneoaa
