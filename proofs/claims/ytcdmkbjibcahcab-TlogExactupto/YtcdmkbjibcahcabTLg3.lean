import Derived.Test.YtcdmkbjibcahcabTLg2
namespace Go.Proofs.Ytcdmkbjibcahcab
open Go.RowKit
set_option linter.unusedVariables false
set_option linter.unusedSimpArgs false
set_option maxRecDepth 20000

section
variable {w : World} {p bm : Nat} {v : Value} {S : LS}
theorem LRep.drewN (h : LRep w p bm v S) (m : Nat) : LRep (w.drewN m) p bm v S := h.kept fun _ _ => rfl
end
theorem below_drewN {n : Nat} {w x : World} (h : Below n w x) (k : Nat) : Below n w (x.drewN k) := ⟨h.os, h.tape, h.output, h.size, h.block⟩
theorem zeroS : ∀ w, (zeroValue 72).run Try.prog w = .ok (stV 0 false) w := fun w => by kernel_rfl
/-- 'v, in := m[k]' of the stands -/
theorem wpList_look (w : World) {ops : Array Oper} {rest : List Oper} {o : Oper} {a : Act} {Q : Exit → Act → World → Prop} (hg : o.guard = none) (m x : Operand) (hop : o.op = Op.lookup 67 m x true) (b n : Nat) (D : DataW Unit)
    (hm : a.eval m = .map (some b)) (hown : w.ownsMap Try.prog 3 stR b n D) (z : Int) (hx : a.eval x = .int .i64 z) (hz : i64ok z)
    (hK : ∀ y : Int × Bool, D.atKey (kL z) (stD 0 false) = stD y.1 y.2 → wpList Try.prog ops Q rest (a.put o.dst (.tuple #[.agg #[.int .i64 y.1, .bool y.2], .bool (Maps.has D (kL z))])) w) :
    wpList Try.prog ops Q (o :: rest) a w :=
  wpList_lookup_own_ok w hg m x 67 hop 3 72 kInt Try.underlying67 stR (zeroS w) (stD 0 false) [] rfl b n D hm hown _ _ hx (keyI hz) (fun v ps hv => by
    obtain ⟨t, c, rfl, hy⟩ := stR_inv hv
    exact hK (t, c) (congrArg Prod.fst hy))
set_option maxHeartbeats 1000000 in
theorem Epochs_any (w : World) (p bm : Nat) (v : Value) (S : LS) (h : LRep w p bm v S) (hl : S.es.length ≤ 2000) (hn : S.now ≤ 16000000000000) (ho : 0 ≤ oldE S ∧ oldE S ≤ 16000000000000) : Calls Try.prog 15 #[.pointer (some ⟨p, 0, none⟩)] w fun e w' => e = .returned (.int .i64 ((S.now : Int) - oldE S)) ∧ ∃ m, w' = w.drewN m := by
  have HO : Hid (∀ k, _) := hide fun k => oldest_any (w.drewN k) p bm v S (h.drewN k) hl
  have c2 := h.c2
  clear h
  obtain ⟨ho1, ho2⟩ := ho
  generalize oldE S = x at *
  generalize S.now = n at *
  go_enter Try.func15, Try.ntmps15
  go_wp2_with fail
  go_quiet ((go_at_call 34; exact Calls.quiet_of (HO.out _)))
  try go_wp2
  go_ret
  exact ⟨rfl, nq, rfl⟩
/-- why a write is refused -/
def refE (S : LS) (id blk : Int) : Int := if id < 1 then 1 else if blk < 0 ∨ 4096 ≤ blk then 2 else if id ∈ ids S.ls then 102 else if S.lim ≤ S.es.length ∨ S.ep ≤ joinN S then 4 else 0
/-- the log's bounds -/
structure LS.Bd (S : LS) : Prop where
  l1 : 1 ≤ S.lim
  l2 : S.lim ≤ 1024
  e1 : 1 ≤ S.ep
  e2 : S.ep ≤ 64
  ln : S.ls.length ≤ S.lim
  nd : (ids S.ls).Nodup
  ok : ∀ x ∈ S.ls, i64ok x.1.1
  nw : 1 ≤ S.now
theorem LS.Bd.es {S : LS} (h : S.Bd) : S.es.length ≤ 2000 := by
  have := h.l2; have := h.ln; rw [LS.es_len]; omega
theorem joinN_le (S : LS) : joinN S ≤ S.es.length := by
  unfold joinN
  have h := (List.takeWhile_sublist (l := S.es.reverse) fun x => x.2.2 == (S.now : Int)).length_le
  simpa using h
set_option maxHeartbeats 1000000 in
theorem refuses_any (w : World) (p bm : Nat) (v : Value) (S : LS) (id blk : Int) (h : LRep w p bm v S) (hb : S.Bd) (hid : i64ok id) : Calls Try.prog 38 #[.pointer (some ⟨p, 0, none⟩), .int .i64 id, .int .i64 blk] w fun e w' => e = .returned (.int .i64 (refE S id blk)) ∧ Below w.heap.size w w' := by
  obtain ⟨a, c, rfl, b1, b2, hc⟩ := h.lst.form
  unfold maxLen at b2
  have c0 := h.c0
  have c1 := h.c1
  have c3 := h.c3
  have c4 := h.c4
  have HJ : Hid (∀ k, _) := hide fun k => joined_any (w.drewN k) p bm _ S (h.drewN k) hb.es
  obtain ⟨D, hown, hDs, hD1, hD2⟩ := h.mp
  have HOWN := hide hown
  by_cases h1 : id < 1
  · have hR : refE S id blk = 1 := if_pos h1
    rw [hR]
    clear h hc hR HJ hD1 hD2 hDs
    go_enter Try.func38, Try.ntmps38
    go_wp2_with fail
    go_ret
    exact ⟨rfl, Below.refl _ _⟩
  · have h1' : (id < 1) = False := by simpa using h1
    by_cases h2 : blk < 0
    · have hR : refE S id blk = 2 := by unfold refE; rw [if_neg h1, if_pos (.inl h2)]
      rw [hR]
      clear h hc hR HJ hD1 hD2 hDs
      go_enter Try.func38, Try.ntmps38
      go_wp2_with fail
      go_ret
      exact ⟨rfl, Below.refl _ _⟩
    · by_cases h3 : 4096 ≤ blk
      · have hR : refE S id blk = 2 := by unfold refE; rw [if_neg h1, if_pos (.inr h3)]
        rw [hR]
        have h2' : (blk < 0) = False := by simpa using h2
        clear h hc hR HJ hD1 hD2 hDs
        go_enter Try.func38, Try.ntmps38
        go_wp2_with fail
        go_ret
        exact ⟨rfl, Below.refl _ _⟩
      · have h2' : (blk < 0) = False := by simpa using h2
        have h3' : (4096 ≤ blk) = False := by simpa using h3
        by_cases h4 : id ∈ ids S.ls
        · have hR : refE S id blk = 102 := by unfold refE; rw [if_neg h1, if_neg (by omega), if_pos h4]
          rw [hR]
          obtain ⟨i, hi⟩ := List.getElem?_of_mem h4
          simp only [ids, List.getElem?_map, Option.map_eq_some_iff] at hi
          obtain ⟨x, hx, rfl⟩ := hi
          have hh := (hD1 i x hx).1
          clear h hc hR HJ hD1 hD2 hDs
          go_enter Try.func38, Try.ntmps38
          go_wp2_with (at_lookup; refine wpList_look _ rfl _ _ rfl bm _ D rfl HOWN.out _ rfl hid ?_; intro y hy; rw [hh]; clear hy)
          go_ret
          exact ⟨rfl, (Below.refl _ w).alloc (Nat.le_refl _) _⟩
        · have hh := hD2 id h4
          have HA : Hid (∀ o : Obj, LRep (w.alloc o) p bm (.slice a S.es.length c) S ∧ Below w.heap.size w (w.alloc o)) := hide fun o => ⟨h.below ((Below.refl _ w).alloc (Nat.le_refl _) _), (Below.refl _ w).alloc (Nat.le_refl _) _⟩
          have HJ2 : Hid (∀ x, LRep x p bm (.slice a S.es.length c) S → ∀ k, _) := hide fun x hx k => joined_any (x.drewN k) p bm _ S (hx.drewN k) hb.es
          have HR := hide (show refE S id blk = if S.lim ≤ S.es.length ∨ S.ep ≤ joinN S then 4 else 0 by unfold refE; rw [if_neg h1, if_neg (by omega), if_neg h4])
          have hjl := joinN_le S
          have hel := hb.es
          have hb1 := hb.l2
          have hb2 := hb.e2
          clear h hc HJ hD1 hD2 hDs c0 c1 c3 h4 hb
          go_enter Try.func38, Try.ntmps38
          go_wp2_with (at_lookup; refine wpList_look _ rfl _ _ rfl bm _ D rfl HOWN.out _ rfl hid ?_; intro y hy; rw [hh]; clear hy)
          obtain ⟨h9, HB⟩ := HA.out (.cells #[.int .i64 y.1, .bool y.2] 72)
          have HJ := hide (HJ2.out _ h9)
          have HB := hide HB
          have d0 := h9.c0
          have d1 := h9.c1
          have d3 := h9.c3
          clear HA HJ2 h9 HOWN c4
          generalize w.alloc (.cells #[.int .i64 y.1, .bool y.2] 72) = w1 at *
          by_cases h5 : S.lim ≤ S.es.length
          · have hR := HR.out
            rw [if_pos (.inl h5)] at hR
            have HRE := hide hR
            clear HR hR
            generalize S.es.length = n at *
            generalize joinN S = jn at *
            generalize S.lim = lim at *
            go_quiet (fail)
            go_wp2_with fail
            go_ret
            exact ⟨by rw [HRE.out]; rfl, below_drewN HB.out _⟩
          · have h5' : ((S.lim : Int) ≤ (S.es.length : Int)) = False := by simp; omega
            by_cases h6 : S.ep ≤ joinN S
            · have hR := HR.out
              rw [if_pos (.inr h6)] at hR
              have HRE := hide hR
              clear HR hR
              generalize S.es.length = n at *
              generalize joinN S = jn at *
              generalize S.lim = lim at *
              generalize S.ep = ep at *
              go_quiet ((go_at_call 39; exact Calls.quiet_of (HJ.out _)))
              go_wp2_with fail
              go_ret
              exact ⟨by rw [HRE.out]; rfl, below_drewN HB.out _⟩
            · have hR := HR.out
              rw [if_neg (by omega)] at hR
              have HRE := hide hR
              have h6' : ((S.ep : Int) ≤ (joinN S : Int)) = False := by simp; omega
              clear HR hR
              generalize S.es.length = n at *
              generalize joinN S = jn at *
              generalize S.lim = lim at *
              generalize S.ep = ep at *
              go_quiet ((go_at_call 39; exact Calls.quiet_of (HJ.out _)))
              go_wp2_with fail
              go_ret
              exact ⟨by rw [HRE.out]; rfl, below_drewN HB.out _⟩
end Go.Proofs.Ytcdmkbjibcahcab
