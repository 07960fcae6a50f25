import Derived.Test.YtcdmkbjibcahcabTKb
namespace Go.Proofs.Ytcdmkbjibcahcab
open Go.RowKit
set_option linter.unusedVariables false
set_option linter.unusedSimpArgs false
set_option maxRecDepth 20000

abbrev nilV : Value := .slice none 0 0
/-- Book.keep writes both lists: behind k of them; x: the world ahead of the loop -/
structure KWi (x wr : World) (A : Nat → Nat → Prop) (b : Nat) (kv0 tv0 : Value) (mk0 n0 : Nat) (bo : Nat → Value × List En) (k : Nat) (kv tv : Value) (K T : VL) : Prop where
  bk : Bk wr b nilV nilV kv tv (mk0 + k) [] [] K T
  ne : ∀ g, kv.ownBlock = some g → tv.ownBlock ≠ some g
  len : K.length = n0 + 2 * k
  ck : Ck (fun g i => ∃ j, j < 2 ∧ Rm (bo j).1 g i) x wr
  chg : Chg (fun g => g = b ∨ kv0.ownBlock = some g ∨ tv0.ownBlock = some g ∨ ∃ j, j < 2 ∧ (bo j).1.ownBlock = some g) x wr
  kl : ∀ g, kv.ownBlock = some g → kv0.ownBlock = some g ∨ x.heap.size ≤ g
  tl : ∀ g, tv.ownBlock = some g → tv0.ownBlock = some g ∨ x.heap.size ≤ g
  rest : ∀ j, k ≤ j → j < 2 → ERow wr (bo j).1 (bo j).2
  dl : ∀ u ∈ K ++ T, ∀ j, k ≤ j → j < 2 → Ds (Cl u.1) (Rm (bo j).1)
  da : ∀ u ∈ K ++ T, Ds (Cl u.1) A
theorem ownsNil (x : World) : x.ownsRow 0 46 1 nilV ([] : VL).length (([] : VL).map Prod.fst) := ⟨rfl, .inl ⟨rfl, rfl⟩⟩
theorem vrowNil (x : World) : VRow x nilV [] := ⟨ownsNil x, fun u hu => by simp at hu⟩
theorem KWi.next {x wr w' : World} {A : Nat → Nat → Prop} {b : Nat} {kv0 tv0 : Value} {mk0 n0 : Nat} {bo : Nat → Value × List En} {k : Nat} {kv tv kv' tv' : Value} {K T : VL} {n : Nat} {M : List En} {g t1 t2 : Value} {G : List En}
    (h : KWi x wr A b kv0 tv0 mk0 n0 bo k kv tv K T) (hk : k < 2) (hA : ∀ g i, A g i → g < x.heap.size) (hB : ∀ j g, j < 2 → (bo j).1.ownBlock = some g → g < x.heap.size)
    (hbA : ∀ j, j < 2 → Ds (Rm (bo j).1) A) (hbb : ∀ i j, i < j → j < 2 → Ds (Rm (bo i).1) (Rm (bo j).1))
    (p : WrP wr w' b nilV nilV kv tv (bo k).1 kv' tv' (mk0 + k + 1) K T n M g t1 t2 G) : KWi x w' A b kv0 tv0 mk0 n0 bo (k + 1) kv' tv' (K ++ [((bo k).1, M)] ++ [(g, G)]) (T ++ [(t1, M)] ++ [(t2, G)]) := by
  have hs := h.chg.size
  have kpt : ∀ u ∈ K ++ T, ERow w' u.1 u.2 := fun u hu => by
    have e : ERow wr u.1 u.2 := by
      rcases List.mem_append.1 hu with q | q
      · exact h.bk.lk.each u q
      · exact h.bk.lt.each u q
    exact e.ck p.ws.ck (h.dl u hu k (Nat.le_refl _) hk)
  have new : ∀ (B : Nat → Nat → Prop), (∀ g i, B g i → g < x.heap.size) → Ds (Rm (bo k).1) B → ∀ u ∈ (K ++ [((bo k).1, M)] ++ [(g, G)]) ++ (T ++ [(t1, M)] ++ [(t2, G)]), u ∈ K ++ T ∨ Ds (Cl u.1) B := fun B hB2 hd u hu => by
    simp only [List.mem_append, List.mem_singleton] at hu ⊢
    rcases hu with ((q | q) | q) | ((q | q) | q)
    · exact .inl (.inl q)
    · refine .inr fun g i h1 h2 => hd g i ?_ h2
      rw [q] at h1
      exact (h.rest k (Nat.le_refl _) hk).clrm h1
    · refine .inr fun g i h1 h2 => ?_
      rw [q] at h1
      rcases p.cg g i h1 with q2 | q2
      · exact hd g i q2 h2
      · have := hB2 g i h2; omega
    · exact .inl (.inr q)
    · refine .inr fun g i h1 h2 => ?_
      rw [q] at h1
      have := p.n1 g h1.own
      have := hB2 g i h2
      omega
    · refine .inr fun g i h1 h2 => ?_
      rw [q] at h1
      have := p.n2 g h1.own
      have := hB2 g i h2
      omega
  refine ⟨⟨p.ws.bw.row, vrowNil _, vrowNil _, ⟨p.ws.bw.k, fun u hu => ?_⟩, ⟨p.ws.bw.t, fun u hu => ?_⟩, rfl, ?_⟩, p.ws.bw.ne, ?_, h.ck.trans (p.ws.ck.mono fun g i _ q => ⟨k, hk, q⟩), h.chg.trans' p.ws.chg ?_, fun g e => ?_, fun g e => ?_, fun j h1 h2 => ?_, fun u hu j h1 h2 => ?_, fun u hu => ?_⟩
  · simp only [List.mem_append, List.mem_singleton] at hu
    rcases hu with (q | q) | q
    · exact kpt u (List.mem_append_left _ q)
    · rw [q]; exact p.el
    · rw [q]; exact p.eg
  · simp only [List.mem_append, List.mem_singleton] at hu
    rcases hu with (q | q) | q
    · exact kpt u (List.mem_append_right _ q)
    · rw [q]; exact p.e1
    · rw [q]; exact p.e2
  · have := h.bk.kt
    simp [this]
  · have := h.len
    simp
    omega
  · rintro g hg (q | q | q | q)
    · exact .inl q
    · rcases h.kl g q with q | q
      · exact .inr (.inl q)
      · omega
    · rcases h.tl g q with q | q
      · exact .inr (.inr (.inl q))
      · omega
    · exact .inr (.inr (.inr ⟨k, hk, q⟩))
  · rcases p.ws.kl g e with q | q
    · exact h.kl g q
    · exact .inr (by omega)
  · rcases p.ws.tl g e with q | q
    · exact h.tl g q
    · exact .inr (by omega)
  · exact (h.rest j (by omega) h2).ck p.ws.ck fun g i q1 q2 => hbb k j (by omega) h2 g i q2 ((h.rest j (by omega) h2).clrm q1)
  · rcases new (Rm (bo j).1) (fun g i q => hB j g h2 q.own) (hbb k j (by omega) h2) u hu with q | q
    · exact h.dl u q j (by omega) h2
    · exact q
  · rcases new A hA (hbA k hk) u hu with q | q
    · exact h.da u q
    · exact q
theorem KWi.write {x wr : World} {A : Nat → Nat → Prop} {b : Nat} {kv0 tv0 : Value} {mk0 n0 : Nat} {bo : Nat → Value × List En} {k : Nat} {kv tv : Value} {K T : VL}
    (h : KWi x wr A b kv0 tv0 mk0 n0 bo k kv tv K T) (hk : k < 2) (hA : ∀ g i, A g i → g < x.heap.size) (hB : ∀ j g, j < 2 → (bo j).1.ownBlock = some g → g < x.heap.size)
    (hbA : ∀ j, j < 2 → Ds (Rm (bo j).1) A) (hbb : ∀ i j, i < j → j < 2 → Ds (Rm (bo i).1) (Rm (bo j).1)) (hl : ∀ j, j < 2 → (bo j).2.length ≤ 2000) (hm : mk0 ≤ 10000000000000) (hn : n0 ≤ 8900000000000) : Calls Try.prog 37 #[.pointer (some ⟨b, 0, none⟩), (bo k).1] wr fun e w' => e = .returned (.tuple #[]) ∧ ∃ kv' tv' K' T', KWi x w' A b kv0 tv0 mk0 n0 bo (k + 1) kv' tv' K' T' := by
  have e1 := h.len
  have e2 : T.length = K.length := by have := congrArg List.length h.bk.kt; simpa using this.symm
  refine (write_any h.bk (h.rest k (Nat.le_refl _) hk) (hl k hk) (by omega) (by omega) (by omega) h.ne).mono ?_
  rintro e w' ⟨kv', tv', M, g, t1, t2, G, rfl, p⟩
  exact ⟨rfl, _, _, _, _, h.next hk hA hB hbA hbb p⟩
theorem ds_false (v : Nat → Nat → Prop) : Ds v (fun _ _ => False) := fun _ _ _ h => h
theorem KWi.below {x wr y : World} {A : Nat → Nat → Prop} {b : Nat} {kv0 tv0 : Value} {mk0 n0 : Nat} {bo : Nat → Value × List En} {k : Nat} {kv tv : Value} {K T : VL} (h : KWi x wr A b kv0 tv0 mk0 n0 bo k kv tv K T) (hb : Below wr.heap.size wr y) : KWi x y A b kv0 tv0 mk0 n0 bo k kv tv K T :=
  ⟨h.bk.below hb, h.ne, h.len, h.ck.calm hb, h.chg.trans (Chg.ofBelow hb), h.kl, h.tl, fun j h1 h2 => (h.rest j h1 h2).below hb, h.dl, h.da⟩
end Go.Proofs.Ytcdmkbjibcahcab
