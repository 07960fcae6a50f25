import Derived.Test.YtcdmkbjibcahcabTRp
import Derived.Test.YtcdmkbjibcahcabTBar
import Derived.Test.YtcdmkbjibcahcabTOk
namespace Go.Proofs.Ytcdmkbjibcahcab
open Go.RowKit
set_option linter.unusedVariables false
set_option linter.unusedSimpArgs false
set_option maxRecDepth 20000

/-- the count of the closed epochs, as the document counts it -/
def epStep (now : Int) (s : Nat × Int) (x : En × Bool) : Nat × Int := if x.1.2.2 ≠ now ∧ x.1.2.2 ≠ s.2 then (s.1 + 1, x.1.2.2) else s
def epF (now : Int) (l : Ls) : Nat × Int := l.foldl (epStep now) (0, 0)
theorem epF_step (now : Int) (l : Ls) {k : Nat} (hk : k < l.length) : epF now (l.take (k + 1)) = if (l.getD k l0).1.2.2 ≠ now ∧ (l.getD k l0).1.2.2 ≠ (epF now (l.take k)).2 then ((epF now (l.take k)).1 + 1, (l.getD k l0).1.2.2) else epF now (l.take k) := by
  have hg : l.getD k l0 = l[k] := by simp [List.getD, hk]
  rw [hg, List.take_add_one, List.getElem?_eq_getElem hk]
  unfold epF
  rw [List.foldl_append]
  rfl
theorem epF_le (now : Int) (l : Ls) : ∀ k, (epF now (l.take k)).1 ≤ k := by
  intro k
  induction k with
  | zero => simp [epF]
  | succ k ih =>
    by_cases hk : k < l.length
    · rw [epF_step now l hk]
      split
      · simp; omega
      · omega
    · rw [List.take_of_length_le (by omega)] at *
      omega
set_option maxHeartbeats 1000000 in
theorem repochs_any {w : World} {q : Nat} {v : Value} {S : LS} (h : DL w q v S) (hl : S.ls.length ≤ 2000) : Calls Try.prog 16 #[.pointer (some ⟨q, 0, none⟩)] w fun e' w' => e' = .returned (.int .i64 ((epF (S.now : Int) S.ls).1 : Int)) ∧ w' = w := by
  obtain ⟨a, c, rfl, b1, b2, hc⟩ := h.own.form
  unfold maxLen at b2
  have c0 := h.c0
  have c1 := h.c1
  have HC := hide hc
  have HS := hide fun (k : Nat) (hk : k < S.ls.length) => epF_step (S.now : Int) S.ls hk
  have HL := hide (epF_le (S.now : Int) S.ls)
  have HT : Hid (epF (S.now : Int) (S.ls.take S.ls.length) = epF (S.now : Int) S.ls) := hide (by rw [List.take_length])
  have HZ : Hid (epF (S.now : Int) (S.ls.take 0) = (0, 0)) := hide rfl
  clear h hc
  obtain ⟨F, hF⟩ : ∃ F : Nat → Nat × Int, ∀ k, F k = epF (S.now : Int) (S.ls.take k) := ⟨_, fun _ => rfl⟩
  simp only [← hF] at HS HT HZ HL
  rw [← HT.out]
  clear hF HT
  generalize S.ls.length = n at *
  generalize (S.now : Int) = now at *
  go_enter Try.func16, Try.ntmps16
  go_wp2_with fail
  go_loopw [3, 4, 5] (fun x y z wr => ∃ k : Nat, k ≤ n ∧ z = .int .i64 (k : Int) ∧ x = .int .i64 ((F k).1 : Int) ∧ y = .int .i64 (F k).2 ∧ wr = w) (fun _ _ z _ => n - (intOf z).toNat)
  case atStart => exact ⟨0, Nat.zero_le _, rfl, by rw [HZ.out]; rfl, by rw [HZ.out], rfl⟩
  case round =>
    obtain ⟨k, hk, rfl, rfl, rfl, hwr⟩ := hrel
    have hwr2 := hwr.symm
    clear hwr
    subst hwr2
    have hb := HL.out k
    by_cases hlt : k < n
    · obtain ⟨g, rfl, d0, d1, d2, d3⟩ := HC.out k hlt
      have hs := HS.out k hlt
      clear HC HS d0 d1 d3 HL
      generalize F k = fk at *
      obtain ⟨f1, f2⟩ := fk
      dsimp only at hs hb
      generalize (S.ls.getD k l0).1.2.2 = z at *
      by_cases hx : z = now
      · rw [if_neg (by rintro ⟨h, -⟩; exact h hx)] at hs
        have hx1 : (z != now) = false := by simpa using hx
        have HN := hide hs
        clear hs
        go_wp2_with fail
        go_roundw
        case rel => exact ⟨k + 1, by omega, by go_num, by rw [HN.out], by rw [HN.out], trivial⟩
        case measure => simp [intOf]; omega
      · have hx1 : (z != now) = true := by simpa using hx
        by_cases hy : z = f2
        · rw [if_neg (by rintro ⟨-, h⟩; exact h hy)] at hs
          have hy1 : (z != f2) = false := by simpa using hy
          have HN := hide hs
          clear hs
          go_wp2_with fail
          go_roundw
          case rel => exact ⟨k + 1, by omega, by go_num, by rw [HN.out], by rw [HN.out], trivial⟩
          case measure => simp [intOf]; omega
        · rw [if_pos ⟨hx, hy⟩] at hs
          have hy1 : (z != f2) = true := by simpa using hy
          have HN := hide hs
          clear hs
          go_wp2_with fail
          go_roundw
          case rel => exact ⟨k + 1, by omega, by go_num, by rw [HN.out]; go_num, by rw [HN.out], trivial⟩
          case measure => simp [intOf]; omega
    · have ek : k = n := by omega
      subst ek
      go_wp2_with fail
      go_ret
      exact ⟨rfl, rfl⟩
end Go.Proofs.Ytcdmkbjibcahcab
