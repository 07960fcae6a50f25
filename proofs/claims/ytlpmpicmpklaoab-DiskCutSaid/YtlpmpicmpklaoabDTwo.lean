import Derived.Test.YtlpmpicmpklaoabDAgain
import Derived.Test.YtlpmpicmpklaoabDLoad
namespace Go.Proofs.Ytlpmpicmpklaoab
open Go.RowKit Go.Maps
set_option linter.unusedVariables false
set_option linter.unusedSimpArgs false
set_option maxRecDepth 20000

/-- two disks among a law's worlds -/
structure Duo (w0 w : World) (L : Lay) (S : St) (M : Lay) (T : St) : Prop where
  a : Dk w0 w L S
  b : Dk w0 w M T
  ap : ∀ x, L.U x → ¬ M.U x

theorem Dk.other {w0 w w' : World} {L M : Lay} {S : St} {U' : Nat → Prop} (h : Dk w0 w M S) (hg : Grow w w' L.U U') (hlb : Below w0.heap.size w0 w') (ap : ∀ x, L.U x → ¬ M.U x) : Dk w0 w' M S :=
  ⟨h.rep.kept (fun b hb => hg.keep b (h.rep.uLt b hb) fun hu => ap b hu hb) hg.size, hlb, h.up⟩

theorem Duo.growA {w0 w w' : World} {L M : Lay} {S S' T : St} {U' : Nat → Prop} (h : Duo w0 w L S M T) (hr : Rep w' { L with U := U' } S') (hg : Grow w w' L.U U') : Duo w0 w' { L with U := U' } S' M T := by
  have ha := h.a.grow hr hg
  refine ⟨ha, h.b.other hg ha.be h.ap, fun x hx hm => ?_⟩
  have hlt := h.b.rep.uLt x hm
  exact h.ap x (hg.new x hlt hx) hm
theorem Duo.growB {w0 w w' : World} {L M : Lay} {S T T' : St} {U' : Nat → Prop} (h : Duo w0 w L S M T) (hr : Rep w' { M with U := U' } T') (hg : Grow w w' M.U U') : Duo w0 w' L S { M with U := U' } T' := by
  have hb := h.b.grow hr hg
  refine ⟨h.a.other hg hb.be (fun x h1 h2 => h.ap x h2 h1), hb, fun x hx hm => ?_⟩
  have hlt := h.a.rep.uLt x hx
  exact h.ap x hx (hg.new x hlt hm)
theorem Duo.growAS {w0 w w' : World} {L M : Lay} {S S' T : St} (h : Duo w0 w L S M T) (hr : Rep w' L S') (hg : Grow w w' L.U L.U) : Duo w0 w' L S' M T := h.growA (U' := L.U) hr hg
theorem Duo.growBS {w0 w w' : World} {L M : Lay} {S T T' : St} (h : Duo w0 w L S M T) (hr : Rep w' M T') (hg : Grow w w' M.U M.U) : Duo w0 w' L S M T' := h.growB (U' := M.U) hr hg
theorem Duo.below {w0 w w' : World} {L M : Lay} {S T : St} (h : Duo w0 w L S M T) (hb : Below w.heap.size w w') : Duo w0 w' L S M T := ⟨h.a.below hb, h.b.below hb, h.ap⟩
/-- a second disk is made -/
theorem Duo.mk' {w0 w w' : World} {L M : Lay} {S T : St} (h : Dk w0 w L S) (hr : Rep w' M T) (hb : Below w.heap.size w w') (hu : ∀ x, M.U x → w.heap.size ≤ x) : Duo w0 w' L S M T := by
  have ha := h.below hb
  refine ⟨ha, ⟨hr, ha.be, fun b h' => Nat.le_trans h.be.size (hu b h')⟩, fun x hx hm => ?_⟩
  have := h.rep.uLt x hx
  have := hu x hm
  omega

theorem img_congr {S T : St} : ∀ n, (∀ i, i < n → S.dur i = T.dur i) → S.img n = T.img n
  | 0, _ => rfl
  | n + 1, h => by
    show S.img n ++ S.dur n = T.img n ++ T.dur n
    rw [img_congr n (fun i hi => h i (by omega)), h n (by omega)]
theorem img_len {S : St} {sz : Nat} : ∀ n, (∀ i, i < n → (S.dur i).length = sz) → (S.img n).length = n * sz
  | 0, _ => by simp [St.img]
  | n + 1, h => by
    show (S.img n ++ S.dur n).length = _
    rw [List.length_append, img_len n (fun i hi => h i (by omega)), h n (by omega), Nat.succ_mul]
theorem img_cut {S : St} {sz : Nat} : ∀ n, (∀ i, i < n → (S.dur i).length = sz) → ∀ i, i < n → cutOf (S.img n) sz i = S.dur i
  | n + 1, h, i, hi => by
    have hl := img_len n (fun i hi => h i (Nat.lt_succ_of_lt hi))
    show ((S.img n ++ S.dur n).drop (i * sz)).take sz = S.dur i
    by_cases e : i = n
    · subst e
      rw [← hl, List.drop_left, ← h i (by omega), List.take_length]
    · have hin : i < n := by omega
      have ih := img_cut n (fun i hi => h i (Nat.lt_succ_of_lt hi)) i hin
      unfold cutOf at ih
      have hle : (i + 1) * sz ≤ n * sz := Nat.mul_le_mul_right _ hin
      rw [Nat.succ_mul] at hle
      rw [List.drop_append_of_le_length (by omega), List.take_append_of_le_length (by rw [List.length_drop]; omega)]
      exact ih
theorem fresh_dur (nb sz : Nat) (f : Nat → List Nat) (i : Nat) : (St.fresh nb sz f).dur i = f i := rfl
end Go.Proofs.Ytlpmpicmpklaoab
