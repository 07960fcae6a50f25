import Derived.Test.YtlpmpicmpklaoabDSame
import Derived.Test.YtlpmpicmpklaoabDLaw5
namespace Go.Proofs.Ytlpmpicmpklaoab
open Go.RowKit Go.Maps Go.Sort
set_option linter.unusedVariables false
set_option linter.unusedSimpArgs false
set_option maxRecDepth 20000

/-- an empty cache -/
def St.dry (S : St) : Prop := ∀ k, S.cache k = []
theorem dry_crash (S : St) (p : List Nat) : (S.crash p).dry := fun k => rfl
theorem crash_calm (S : St) (p : List Nat) : (S.crash p).calm := ⟨rfl, rfl⟩
theorem geo_crash (S : St) (p : List Nat) : S.geo (S.crash p) := ⟨rfl, rfl⟩
theorem med_crash_dry {S : St} (h : S.dry) (p : List Nat) : (S.crash p).med = S.med := by
  funext k
  show (if 0 < keptN p k (S.cache k).length then _ else S.med k) = S.med k
  have : keptN p k (S.cache k).length = 0 := by
    have := keptN_le p k (S.cache k).length
    rw [h k] at this ⊢
    simp at this
    exact this
  rw [if_neg (by omega)]
theorem like_reads {S T : St} (h : S.like T) : T.rdV = S.rdV ∧ T.rdE = S.rdE := by
  obtain ⟨h1, h2, h3, h4, h5, h6⟩ := h
  constructor
  · funext k; simp only [St.rdV, St.val, h3, h4, h5]
  · funext k
    have hv : ∀ j, T.val j = S.val j := fun j => by simp only [St.val, h3, h4]
    simp only [St.rdE, St.readErr, h1, h5, hv]
theorem like_img {S T : St} (h : S.like T) : ∀ n, T.img n = S.img n := by
  obtain ⟨h1, h2, h3, h4, h5, h6⟩ := h
  intro n
  induction n with
  | zero => rfl
  | succ n ih => simp only [St.img, ih, St.dur, h2, h3]
theorem like_trans {S T V : St} (h : S.like T) (k : T.like V) : S.like V := ⟨k.1.trans h.1, k.2.1.trans h.2.1, k.2.2.1.trans h.2.2.1, k.2.2.2.1.trans h.2.2.2.1, k.2.2.2.2.1.trans h.2.2.2.2.1, k.2.2.2.2.2.trans h.2.2.2.2.2⟩
/-- a second crash changes nothing -/
theorem like_crash {S : St} (hd : S.dry) (hc : S.calm) (p : List Nat) : S.like (S.crash p) :=
  ⟨rfl, rfl, med_crash_dry hd p, funext fun k => (hd k).symm, hc.1.symm, hc.2.symm⟩

theorem Cached_dry {w : World} {L : Lay} {S : St} (hR : Rep w L S) (hd : S.dry) :
    Calls Try.prog 33 #[PD L] w fun e w' => e = .returned (.slice none 0 0) ∧ Below w.heap.size w w' := by
  obtain ⟨A, D, ho, hc⟩ := hR
  refine (Cached_raw ho hc).mono ?_
  rintro e w' ⟨v, ss, rfl, hp, _, hnil, hb⟩
  have hD : D = .map [] := by
    obtain ⟨es, rfl, _, hkey⟩ := ho.entries kInt
    cases es with
    | nil => rfl
    | cons x r =>
      have hx : has (.map (x :: r)) x.1 = true := List.any_eq_true.2 ⟨x, .head _, WideAt.sameKey_self (hkey x (.head _))⟩
      obtain ⟨k, hk, e⟩ := hc.keys _ hx
      rw [e] at hx
      exact absurd (hd k) ((hc.hasK k hk).1 hx)
  have hs : ss = [] := by
    rw [hD] at hp
    exact List.Perm.eq_nil hp
  exact ⟨by rw [hnil.2 hs], hb⟩

theorem freshSt_calm (nb sz : Nat) (os : List OpV) : (freshSt nb sz os).calm ∧ (freshSt nb sz os).dry ∧ (freshSt nb sz os).nb = nb ∧ (freshSt nb sz os).sz = sz := by
  refine ⟨crash_calm _ _, dry_crash _ _, ?_, ?_⟩
  · exact (geo_calls (St.fresh nb sz fun _ => zeros sz) os).1
  · exact (geo_calls (St.fresh nb sz fun _ => zeros sz) os).2

/-- a list that 'seen' gave, behind a name -/
structure SeenIn (w : World) (U : Nat → Prop) (g : Nat) (bv ev : Value) (xs : List (Option (List Nat))) (es : List Int) : Prop where
  at_ : w.heap[g]? = some (.cells #[bv, ev] 40 (0, 0))
  nu : ¬ U g
  sa : SeenAt w U bv ev xs es
theorem SeenIn.grow {w w' : World} {U U' : Nat → Prop} {g : Nat} {bv ev : Value} {xs : List (Option (List Nat))} {es : List Int} (h : SeenIn w U g bv ev xs es) (hg : Grow w w' U U') : SeenIn w' U' g bv ev xs es := by
  have hlt := (Array.getElem?_eq_some_iff.1 h.at_).1
  exact ⟨(hg.keep g hlt h.nu).trans h.at_, fun hu => h.nu (hg.new g hlt hu), h.sa.grow hg⟩
theorem SeenIn.mk' {w : World} {L : Lay} {S : St} (hR : Rep w L S) {bv ev : Value} {xs : List (Option (List Nat))} {es : List Int} (h : SeenAt w L.U bv ev xs es) : SeenIn (w.alloc (.cells #[bv, ev] 40)) L.U w.heap.size bv ev xs es :=
  ⟨Go.heap_alloc_new w _, fun hu => by have := hR.uLt _ hu; omega, h.below ((Below.refl _ _).alloc (Nat.le_refl _) _)⟩
theorem PieceAt.grow {w w' : World} {U U' : Nat → Prop} {g : Nat} {l : List Nat} (h : PieceAt w g l) (hu : ¬ U g) (hg : Grow w w' U U') : PieceAt w' g l ∧ ¬ U' g := ⟨h.kept (hg.keep g h.lt hu), fun h' => hu (hg.new g h.lt h')⟩

theorem SeenAt.form {w : World} {U : Nat → Prop} {bv ev : Value} {xs : List (Option (List Nat))} {es : List Int} (h : SeenAt w U bv ev xs es) : ∃ a1 n1 c1 a2 n2 c2, bv = .slice a1 n1 c1 ∧ ev = .slice a2 n2 c2 := by
  obtain ⟨vs, o, _⟩ := h.vals
  have i := h.ints
  rcases o.2 with ⟨e, _⟩ | ⟨g, cap, cur, e, _⟩ <;> rcases i.2 with ⟨e', _⟩ | ⟨g', cap', cur', e', _⟩ <;> exact ⟨_, _, _, _, _, _, e, e'⟩

end Go.Proofs.Ytlpmpicmpklaoab
