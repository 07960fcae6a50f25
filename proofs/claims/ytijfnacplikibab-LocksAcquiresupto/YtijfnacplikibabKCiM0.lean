import Derived.Test.YtijfnacplikibabKPl
import Derived.Test.YtijfnacplikibabKKeep
import Derived.Test.YtijfnacplikibabKBa
import Derived.Test.YtijfnacplikibabKInv
import Derived.Test.YtijfnacplikibabKNew
import Derived.Test.YtijfnacplikibabKBook
import Derived.Test.YtijfnacplikibabKOps
import Derived.Test.YtijfnacplikibabKNewsL
namespace Go.Proofs.Ytijfnacplikibab
open Go.RowKit
set_option linter.unusedVariables false
set_option linter.unusedSimpArgs false

/-- the least turn above last among the first m: where it stands, or -1 -/
def Bst (l : List Pc) (last : Int) (m : Nat) (k : Int) : Prop := (k = -1 ∧ ∀ j, j < m → (l.getD j p0).turn ≤ last) ∨ ∃ b : Nat, b < m ∧ k = (b : Int) ∧ last < (l.getD b p0).turn ∧ ∀ j, j < m → last < (l.getD j p0).turn → (l.getD b p0).turn ≤ (l.getD j p0).turn
theorem Bst.zero (l : List Pc) (last : Int) : Bst l last 0 (-1) := .inl ⟨rfl, fun j hj => by omega⟩
/-- the next is taken -/
theorem Bst.take {l : List Pc} {last : Int} {m : Nat} {k : Int} (h : Bst l last m k) (h1 : last < (l.getD m p0).turn) (h2 : k < 0 ∨ ∃ b : Nat, k = (b : Int) ∧ (l.getD m p0).turn < (l.getD b p0).turn) : Bst l last (m + 1) (m : Int) := by
  refine .inr ⟨m, by omega, rfl, h1, fun j hj hlt => ?_⟩
  by_cases e : j = m
  · rw [e]; exact Int.le_refl _
  · rcases h with ⟨_, h⟩ | ⟨b, hb, hk, h3, h4⟩
    · have := h j (by omega); omega
    · have h5 := h4 j (by omega) hlt
      rcases h2 with h2 | ⟨b', hb', h2⟩
      · omega
      · have : b' = b := by omega
        subst this
        omega
/-- the next is passed -/
theorem Bst.pass {l : List Pc} {last : Int} {m : Nat} {k : Int} (h : Bst l last m k) (h1 : ¬ (last < (l.getD m p0).turn) ∨ ∃ b : Nat, k = (b : Int) ∧ ¬ (l.getD m p0).turn < (l.getD b p0).turn) : Bst l last (m + 1) k := by
  rcases h with ⟨hk, h⟩ | ⟨b, hb, hk, h3, h4⟩
  · refine .inl ⟨hk, fun j hj => ?_⟩
    by_cases e : j = m
    · rcases h1 with h1 | ⟨b, hb, _⟩
      · rw [e]; omega
      · omega
    · exact h j (by omega)
  · refine .inr ⟨b, by omega, hk, h3, fun j hj hlt => ?_⟩
    by_cases e : j = m
    · rw [e] at hlt ⊢
      rcases h1 with h1 | ⟨b', hb', h1⟩
      · omega
      · have : b' = b := by omega
        subst this
        omega
    · exact h4 j (by omega) hlt
/-- the turn of the last that was told -/
def lastT (H : List Pc) (i : Nat) : Int := if i = 0 then 0 else (H.getD (i - 1) p0).turn
def lastM (H : List Pc) (i : Nat) : Int := if i = 0 then 0 else (H.getD (i - 1) p0).mode
theorem turn_lt {H : List Pc} (hs : H.Pairwise fun a b => a.turn < b.turn) {i j : Nat} (hij : i < j) (hj : j < H.length) : (H.getD i p0).turn < (H.getD j p0).turn := by
  have := List.pairwise_iff_getElem.1 hs i j (by omega) hj hij
  simpa [List.getD, hj, Nat.lt_trans hij hj] using this
/-- the one that is found is the next by turns -/
theorem Bst.found {l H : List Pc} {i : Nat} {k : Int} (hp : H.Perm l) (hs : H.Pairwise fun a b => a.turn < b.turn) (h1 : ∀ x ∈ H, 1 ≤ x.turn) (hi : i < H.length) (h : Bst l (lastT H i) l.length k) : ∃ b : Nat, b < l.length ∧ k = (b : Int) ∧ l.getD b p0 = H.getD i p0 := by
  have hgd : ∀ (L : List Pc) (j : Nat), j < L.length → L.getD j p0 ∈ L := fun L j hj => by
    have : L.getD j p0 = L[j] := by simp [List.getD, hj]
    rw [this]
    exact List.getElem_mem hj
  have idx : ∀ (L : List Pc) (x : Pc), x ∈ L → ∃ j, j < L.length ∧ L.getD j p0 = x := fun L x hx => by
    obtain ⟨j, hj, rfl⟩ := List.mem_iff_getElem.1 hx
    exact ⟨j, hj, by simp [List.getD, hj]⟩
  have hlast : lastT H i < (H.getD i p0).turn := by
    unfold lastT
    split
    · have := h1 _ (hgd H i hi); omega
    · exact turn_lt hs (by omega) hi
  obtain ⟨j0, hj0, e0⟩ := idx l _ (hp.mem_iff.1 (hgd H i hi))
  rcases h with ⟨_, h⟩ | ⟨b, hb, hk, h3, h4⟩
  · have := h j0 hj0
    rw [e0] at this
    omega
  · refine ⟨b, hb, hk, ?_⟩
    obtain ⟨ib, hib, eb⟩ := idx H _ (hp.mem_iff.2 (hgd l b hb))
    have h5 := h4 j0 hj0 (by rw [e0]; exact hlast)
    rw [e0, ← eb] at h5
    rw [← eb] at h3 ⊢
    have : ib = i := by
      rcases Nat.lt_trichotomy ib i with q | q | q
      · exfalso
        unfold lastT at h3
        rw [if_neg (by omega)] at h3
        by_cases e9 : ib = i - 1
        · rw [e9] at h3; omega
        · have := turn_lt hs (i := ib) (j := i - 1) (by omega) (by omega)
          omega
      · exact q
      · have := turn_lt hs q hib
        omega
    rw [this]
theorem take_own (H : List Pc) {i : Nat} (hi : i < H.length) : (H.take (i + 1)).map Pc.own = (H.take i).map Pc.own ++ [(H.getD i p0).own] := by
  have e1 : H.take (i + 1) = H.take i ++ [H.getD i p0] := by
    rw [List.take_add_one]
    simp [List.getD, hi]
  rw [e1, List.map_append]
  rfl
end Go.Proofs.Ytijfnacplikibab
namespace Go.Proofs.Ytijfnacplikibab
open Go.RowKit
set_option linter.unusedVariables false
set_option linter.unusedSimpArgs false
set_option maxRecDepth 20000

theorem wp_still_all {P : Program} {id : Nat} {Q : Exit → Act → World → Prop} {a : Act} {w : World} {l : List Oper} (hm : P.follows .mixedOrders = true) (hB : Region.lexB .any l.toArray = true)
    (h : wpStill P l.toArray (w.drewN 1) (fun a' => Q .normal a' (w.drewN 1)) l a) : (Code.region id l.toArray true).wp P Q a w := wp_region_still_lit hm hB h
theorem hl_take (P : List Pc) (e : Int) {k : Nat} (hk : k < P.length) : (P.take (k + 1)).filter (hl1 e) = if hl1 e (P.getD k p0) = true then (P.take k).filter (hl1 e) ++ [P.getD k p0] else (P.take k).filter (hl1 e) := by
  have e1 : P.take (k + 1) = P.take k ++ [P.getD k p0] := by
    rw [List.take_add_one]
    simp [List.getD, hk]
  rw [e1, filter_snoc]
/-- Holders behind i of them: the places that hold, and who was told -/
structure HI2 (w wr : World) (lv ov : Value) (l : List Pc) (out : List Int) : Prop where
  bel : Below w.heap.size w wr
  row : PRow wr lv l
  new : ∀ g, lv.ownBlock = some g → w.heap.size ≤ g
  orow : IRow wr ov out
  onew : ∀ g, ov.ownBlock = some g → w.heap.size ≤ g
theorem HI2.calm {w wr z : World} {lv ov : Value} {l : List Pc} {out : List Int} (h : HI2 w wr lv ov l out) (hb : Below wr.heap.size wr z) : HI2 w z lv ov l out := ⟨h.bel.trans (hb.mono h.bel.size), h.row.below hb, h.new, h.orow.below' hb, h.onew⟩
theorem HI2.app {w wr z : World} {lv ov ov' : Value} {l : List Pc} {out out' : List Int} (h : HI2 w wr lv ov l out) (ho : IRow z ov' out') (ha : App wr z ov ov') : HI2 w z lv ov' l out' := by
  refine ⟨h.bel.trans (ha.chg.below h.bel.size h.onew), rowKept h.row fun g e => ha.chg.keep g (h.row.lt e) fun e2 => ?_, h.new, ho, fun g e => ?_⟩
  · obtain ⟨cs, hc⟩ := h.orow.cellsOf e2
    obtain ⟨ds, hd⟩ := PRow.cellsOf h.row e
    exact neType hc hd (by decide) rfl
  · rcases ha.loc g e with e | e
    · exact h.onew g e
    · exact Nat.le_trans h.bel.size e
set_option maxHeartbeats 4000000 in
theorem rholders_in {w : World} {q : Nat} {v : Value} {n room : Nat} {P : List Pc} {T : Nat} (h : RT w q v n room P T) (hl : P.length ≤ 9000000) {e : Int} (he : 0 ≤ e ∧ e < (n : Int)) {H : List Pc} (hp : H.Perm (P.filter (hl1 e))) (hs : H.Pairwise fun a b => a.turn < b.turn) (h1 : ∀ x ∈ H, 1 ≤ x.turn) : Calls Try.prog 26 #[.pointer (some ⟨q, 0, none⟩), .int .i64 e] w fun e' w' => ∃ rv, e' = .returned (.tuple #[rv, .int .i64 (lastM H H.length), .int .i64 0]) ∧ NI w w' rv (H.map Pc.own) := by
  obtain ⟨a, c, ev, b1, b2, -⟩ := h.own.form
  subst ev
  unfold maxLen at b2
  have HC : Hid (∀ x, Below w.heap.size w x → x.cell? ⟨q, 2, none⟩ = some (.slice a P.length c) ∧ ∀ j, j < P.length → ∃ g, a = some ⟨g, 0, none⟩ ∧ pcAt x g j (P.getD j p0)) := hide fun x hb => by
    have hx := h.below hb
    refine ⟨hx.c2, fun j hj => ?_⟩
    obtain ⟨a', c', e', -, -, hq⟩ := hx.own.form
    simp only [Value.slice.injEq, true_and] at e'
    obtain ⟨rfl, rfl⟩ := e'
    exact hq j hj
  have HS := hide fun (k : Nat) (hk : k < P.length) => hl_take P e hk
  have HT := hide (there_any w q (n : Int) e h.c0)
  rw [show (decide (0 ≤ e) && decide (e < (n : Int))) = true by simp [he]] at HT
  obtain ⟨F, hF⟩ : ∃ F : Nat → List Pc, ∀ k, F k = (P.take k).filter (hl1 e) := ⟨_, fun _ => rfl⟩
  have HE : Hid (P.filter (hl1 e) = F P.length) := hide (by rw [hF, List.take_length])
  have HZ : Hid (F 0 = []) := hide (by rw [hF]; rfl)
  have HL : Hid (∀ k, (F k).length ≤ 10000000) := hide fun k => by
    rw [hF]
    have := List.length_filter_le (hl1 e) (P.take k)
    rw [List.length_take] at this
    omega
  simp only [← hF] at HS
  rw [HE.out] at hp
  have HBF : Hid (∀ i k, i < H.length → Bst (F P.length) (lastT H i) (F P.length).length k → ∃ b : Nat, b < (F P.length).length ∧ k = (b : Int) ∧ (F P.length).getD b p0 = H.getD i p0) := hide fun i k hi hb => Bst.found hp hs h1 hi hb
  have HHL : Hid (H.length = (F P.length).length) := hide hp.length_eq
  have HTK := hide fun (i : Nat) (hi : i < H.length) => take_own H hi
  have HTE : Hid ((H.take H.length).map Pc.own = H.map Pc.own) := hide (by rw [List.take_length])
  clear hF HE hp hs h1
  obtain ⟨c2, -⟩ := HC.out w (Below.refl _ _)
  clear h
  generalize P.length = N at *
  go_enter Try.func26, Try.ntmps26
  go_wp2_with (go_at_call 33; refine HT.out.mono ?_; rintro e' w2 ⟨rfl, h9⟩; have h9s := h9.symm; clear h9; subst h9s; clear HT)
  go_loopw [8, 9] (fun x y wr => ∃ k : Nat, k ≤ N ∧ y = .int .i64 (k : Int) ∧ Hid (NP w wr x (F k))) (fun _ y _ => N - (intOf y).toNat)
  case atStart => exact ⟨0, Nat.zero_le _, rfl, by rw [HZ.out]; exact hide (NP.nil w)⟩
  case round =>
    clear c2 HZ
    obtain ⟨k, hk, rfl, HI⟩ := hrel
    obtain ⟨c2, hq⟩ := HC.out _ HI.out.bel
    obtain ⟨oa, oc, oe, -, ob2, -⟩ := HI.out.row.form
    subst oe
    by_cases hlt : k < N
    · obtain ⟨g, rfl, d0, d1, d2, d3, d4⟩ := hq k hlt
      have hss := HS.out k hlt
      have hli : (k : Int) < (N : Int) := by omega
      have hlk := HL.out k
      clear HC HS hq HBF HHL HTK HTE ob2
      by_cases h1 : (P.getD k p0).ext = e
      · have h1e : ((P.getD k p0).ext == e) = true := by simpa using h1
        by_cases h2 : (P.getD k p0).held = true
        · rw [if_pos (by unfold hl1; rw [h1e, h2]; rfl)] at hss
          have HN := hide hss
          clear hss h1 HL
          generalize P.getD k p0 = z at *
          have HI1 := hide (HI.out.calm (below_alloc wr (.cells #[.int .i64 z.ext, .int .i64 z.mode, .int .i64 z.own, .bool true, .int .i64 z.turn] 83)))
          have hO := new_pc wr z
          rw [h2] at d3 hO
          have HO1 := hide hO
          clear HI hO h2
          go_wp2_with (at_builtin; refine wpList_appendP _ rfl (.tmp 49) (.tmp 57) rfl _ (F k) rfl HI1.out.row ⟨wr.heap.size, 0, none⟩ 1 [z] (by simp) rfl HO1.out (by simp; omega) ?_; intro v6 w6 q1 q2; have HI2 := hide (HI1.out.app q1 q2); clear q1 q2)
          go_roundw
          case rel => exact ⟨k + 1, by omega, by go_num, by rw [HN.out]; exact HI2⟩
          case measure => simp [intOf]; omega
        · have h2e : (P.getD k p0).held = false := by simpa using h2
          rw [if_neg (by unfold hl1; rw [h1e, h2e]; simp)] at hss
          have HN := hide hss
          rw [h2e] at d3
          clear hss h1 h2 h2e HL
          generalize P.getD k p0 = z at *
          go_wp2_with fail
          go_roundw
          case rel => exact ⟨k + 1, by omega, by go_num, by rw [HN.out]; exact HI⟩
          case measure => simp [intOf]; omega
      · have h1e : ((P.getD k p0).ext == e) = false := by simpa using h1
        rw [if_neg (by unfold hl1; rw [h1e]; simp)] at hss
        have HN := hide hss
        clear hss h1 HL
        generalize P.getD k p0 = z at *
        go_wp2_with fail
        go_roundw
        case rel => exact ⟨k + 1, by omega, by go_num, by rw [HN.out]; exact HI⟩
        case measure => simp [intOf]; omega
    · have ek : k = N := by omega
      subst ek
      have hli : ¬ (k : Int) < (k : Int) := by omega
      have HJ : Hid (HI2 w wr (.slice oa (F k).length oc) (.slice none 0 0) (F k) []) := hide ⟨HI.out.bel, HI.out.row, HI.out.new, rnil _, fun g e => by simp [Value.ownBlock] at e⟩
      have hFl := HL.out k
      clear HC HS hq HL HI
      unfold maxLen at ob2
      have HPF : Hid (∀ wz ov out, HI2 w wz (.slice oa (F k).length oc) ov (F k) out → ∀ j, j < (F k).length → ∃ g, oa = some ⟨g, 0, none⟩ ∧ pcAt wz g j ((F k).getD j p0)) := hide fun wz ov out hx j hj => by
        obtain ⟨a', c', e', -, -, hq⟩ := hx.row.form
        simp only [Value.slice.injEq, true_and] at e'
        obtain ⟨rfl, rfl⟩ := e'
        exact hq j hj
      generalize F k = G at *
      generalize hM : G.length = M at *
      have HZ0 : Hid (lastT H 0 = 0 ∧ lastM H 0 = 0 ∧ (H.take 0).map Pc.own = []) := hide ⟨rfl, rfl, rfl⟩
      go_wp2_with fail
      go_loopw [10, 11, 12] (fun x y z wr => ∃ i : Nat, i ≤ M ∧ lenV x = i ∧ y = .int .i64 (lastM H i) ∧ z = .int .i64 (lastT H i) ∧ Hid (HI2 w wr (.slice oa M oc) x G ((H.take i).map Pc.own))) (fun x _ _ _ => M - lenV x)
      case atStart => exact ⟨0, Nat.zero_le _, rfl, by rw [HZ0.out.2.1], by rw [HZ0.out.1], by rw [HZ0.out.2.2]; exact HJ⟩
      case round =>
        clear HJ
        obtain ⟨i, hi, hx, rfl, rfl, HK⟩ := hrel
        obtain ⟨xa, xc, xe⟩ := HK.out.orow.form'
        subst xe
        have HJL : Hid (((H.take i).map Pc.own).length = i) := hide hx
        clear hx
        by_cases hlt : i < M
        · have hiH : i < H.length := by rw [HHL.out]; exact hlt
          have htk := HTK.out i hiH
          have HTI := hide htk
          clear htk HTE HTK
          have HBI := hide fun kk (hb : Bst G (lastT H i) M kk) => HBF.out i kk hiH hb
          clear HBF
          have HLA : Hid (lastT H (i + 1) = (H.getD i p0).turn ∧ lastM H (i + 1) = (H.getD i p0).mode) := hide ⟨by simp [lastT], by simp [lastM]⟩
          generalize (H.take i).map Pc.own = IL at *
          generalize lastT H i = la at *
          generalize lastM H i = lm at *
          have hli : (IL.length : Int) < (M : Int) := by have := HJL.out; omega
          go_wp2_with fail
          go_loopw [13, 14] (fun x y wz => ∃ m : Nat, m ≤ M ∧ y = .int .i64 (m : Int) ∧ ∃ b : Int, x = .int .i64 b ∧ Hid (Bst G la m b) ∧ Hid (HI2 w wz (.slice oa M oc) (.slice xa IL.length xc) G IL)) (fun _ y _ => M - (intOf y).toNat)
          case atStart => exact ⟨0, Nat.zero_le _, rfl, -1, rfl, hide (Bst.zero G la), HK⟩
          case round =>
            clear HK
            obtain ⟨m, hm, rfl, b, rfl, HB, HW⟩ := hrel
            by_cases hmt : m < M
            · obtain ⟨g, rfl, d0, d1, d2, d3, d4⟩ := HPF.out _ _ _ HW.out m hmt
              have hmi : (m : Int) < (M : Int) := by omega
              by_cases ht : la < (G.getD m p0).turn
              · have hgt : (G.getD m p0).turn > la := ht
                have hbs := HB.out
                by_cases hb0 : b < 0
                · have HNX := hide (hbs.take ht (.inl hb0))
                  clear HBI HPF hbs HB ht
                  generalize G.getD m p0 = z at d0 d1 d2 d3 d4 hgt
                  go_wp2_with fail
                  refine wp_region_any (by kernel_rfl) ?_
                  change wpAny _ _ _ _ _ _ _ (World.drew _)
                  refine wpAny_take (i := 0) (oi := { dst := some 70, op := Op.move (Operand.tmp 8), type := 71, pos := "ref.go:185", after := #[], guard := none }) (v := ?_) rfl (by kernel_rfl) (by kernel_rfl) (by kernel_rfl) (fun _ _ _ h => h) (Or.inl ⟨by rfl, ?_⟩) ?_
                  case refine_2 => (intro w; go_simp; try with_reducible rfl)
                  try simp only [Act.put, List.setIfInBounds_toArray, List.set_cons_zero, List.set_cons_succ]
                  refine wpAny_take (i := 1) (oi := { dst := some 71, op := Op.move (Operand.tmp 14), type := 3, pos := "ref.go:185", after := #[], guard := none }) (v := ?_) rfl (by kernel_rfl) (by kernel_rfl) (by kernel_rfl) (fun _ _ _ h => h) (Or.inl ⟨by rfl, ?_⟩) ?_
                  case refine_2 => (intro w; go_simp; try with_reducible rfl)
                  try simp only [Act.put, List.setIfInBounds_toArray, List.set_cons_zero, List.set_cons_succ]
                  refine wpAny_take (i := 5) (oi := { dst := some 75, op := Op.move (Operand.tmp 12), type := 3, pos := "ref.go:185", after := #[], guard := none }) (v := ?_) rfl (by kernel_rfl) (by kernel_rfl) (by kernel_rfl) (fun _ _ _ h => h) (Or.inl ⟨by rfl, ?_⟩) ?_
                  case refine_2 => (intro w; go_simp; try with_reducible rfl)
                  try simp only [Act.put, List.setIfInBounds_toArray, List.set_cons_zero, List.set_cons_succ]
                  refine wpAny_ready (rs := [2]) (by kernel_rfl) (by simp) ?_
                  refine AllReady.cons (o := { dst := some 72, op := Op.indexAddr 71 (Operand.tmp 70) (Operand.tmp 71), type := 0, pos := "ref.go:185", after := #[{ on := 0, ground := Ground.data }, { on := 1, ground := Ground.data }], guard := none }) rfl (fun K hK => ?_) AllReady.nil
                  go_simp
                  refine hK _ _ ?_
                  clear hK K
                  refine wpAny_take (i := 3) (oi := { dst := some 73, op := Op.fieldAddr 83 (Operand.tmp 72) 4, type := 0, pos := "ref.go:185", after := #[{ on := 2, ground := Ground.data }], guard := none }) (v := ?_) rfl (by kernel_rfl) (by kernel_rfl) (by kernel_rfl) (fun _ _ _ h => h) (Or.inl ⟨by rfl, ?_⟩) ?_
                  case refine_2 => (intro w; go_simp; try with_reducible rfl)
                  try simp only [Act.put, List.setIfInBounds_toArray, List.set_cons_zero, List.set_cons_succ]
                  refine wpAny_ready (rs := [4]) (by kernel_rfl) (by simp) ?_
                  refine AllReady.cons (o := { dst := some 74, op := Op.load 3 (Operand.tmp 73), type := 3, pos := "ref.go:185", after := #[{ on := 3, ground := Ground.data }], guard := none }) rfl (fun K hK => ?_) AllReady.nil
                  go_simp
                  refine hK _ _ ?_
                  clear hK K
                  refine wpAny_take (i := 6) (oi := { dst := some 76, op := Op.binOp BinOp.gtr 3 (Operand.tmp 74) (Operand.tmp 75) 3, type := 4, pos := "ref.go:185", after := #[{ on := 4, ground := Ground.data }, { on := 5, ground := Ground.data }], guard := none }) (v := ?_) rfl (by kernel_rfl) (by kernel_rfl) (by kernel_rfl) (fun _ _ _ h => h) (Or.inl ⟨by rfl, ?_⟩) ?_
                  case refine_2 => (intro w; go_simp; try with_reducible rfl)
                  try simp only [Act.put, List.setIfInBounds_toArray, List.set_cons_zero, List.set_cons_succ]
                  refine wpAny_take (i := 7) (oi := { dst := some 77, op := Op.move (Operand.tmp 76), type := 4, pos := "ref.go:185", after := #[{ on := 6, ground := Ground.data }], guard := none }) (v := ?_) rfl (by kernel_rfl) (by kernel_rfl) (by kernel_rfl) (fun _ _ _ h => h) (Or.inl ⟨by rfl, ?_⟩) ?_
                  case refine_2 => (intro w; go_simp; try with_reducible rfl)
                  try simp only [Act.put, List.setIfInBounds_toArray, List.set_cons_zero, List.set_cons_succ]
                  refine wpAny_take (i := 8) (oi := { dst := some 78, op := Op.move (Operand.tmp 13), type := 3, pos := "ref.go:185", after := #[{ on := 7, ground := Ground.guard }], guard := some (7, true) }) (v := ?_) rfl (by kernel_rfl) (by kernel_rfl) (by kernel_rfl) (fun _ _ _ h => h) (Or.inl ⟨by rfl, ?_⟩) ?_
                  case refine_2 => (intro w; go_simp; try with_reducible rfl)
                  try simp only [Act.put, List.setIfInBounds_toArray, List.set_cons_zero, List.set_cons_succ]
                  refine wpAny_take (i := 9) (oi := { dst := some 79, op := Op.binOp BinOp.lss 3 (Operand.tmp 78) (Operand.const (Value.int IntKind.i64 0)) 3, type := 4, pos := "ref.go:185", after := #[{ on := 8, ground := Ground.data }, { on := 7, ground := Ground.guard }], guard := some (7, true) }) (v := ?_) rfl (by kernel_rfl) (by kernel_rfl) (by kernel_rfl) (fun _ _ _ h => h) (Or.inl ⟨by rfl, ?_⟩) ?_
                  case refine_2 => (intro w; go_simp; try with_reducible rfl)
                  try simp only [Act.put, List.setIfInBounds_toArray, List.set_cons_zero, List.set_cons_succ]
                  refine wpAny_take (i := 10) (oi := { dst := some 80, op := Op.move (Operand.tmp 79), type := 4, pos := "ref.go:185", after := #[{ on := 9, ground := Ground.data }, { on := 7, ground := Ground.chain }, { on := 7, ground := Ground.guard }], guard := some (7, true) }) (v := ?_) rfl (by kernel_rfl) (by kernel_rfl) (by kernel_rfl) (fun _ _ _ h => h) (Or.inl ⟨by rfl, ?_⟩) ?_
                  case refine_2 => (intro w; go_simp; try with_reducible rfl)
                  try simp only [Act.put, List.setIfInBounds_toArray, List.set_cons_zero, List.set_cons_succ]
                  refine wpAny_take (i := 11) (oi := { dst := some 81, op := Op.move (Operand.tmp 8), type := 71, pos := "ref.go:185", after := #[{ on := 10, ground := Ground.guard }], guard := some (10, false) }) (v := undef) rfl (by kernel_rfl) (by kernel_rfl) (by kernel_rfl) (fun _ _ _ h => h) (Or.inr ⟨by kernel_rfl, rfl⟩) ?_
                  try simp only [Act.put, List.setIfInBounds_toArray, List.set_cons_zero, List.set_cons_succ]
                  refine wpAny_take (i := 12) (oi := { dst := some 82, op := Op.move (Operand.tmp 14), type := 3, pos := "ref.go:185", after := #[{ on := 10, ground := Ground.guard }], guard := some (10, false) }) (v := undef) rfl (by kernel_rfl) (by kernel_rfl) (by kernel_rfl) (fun _ _ _ h => h) (Or.inr ⟨by kernel_rfl, rfl⟩) ?_
                  try simp only [Act.put, List.setIfInBounds_toArray, List.set_cons_zero, List.set_cons_succ]
                  refine wpAny_take (i := 13) (oi := { dst := some 83, op := Op.indexAddr 71 (Operand.tmp 81) (Operand.tmp 82), type := 0, pos := "ref.go:185", after := #[{ on := 11, ground := Ground.data }, { on := 12, ground := Ground.data }, { on := 10, ground := Ground.guard }], guard := some (10, false) }) (v := undef) rfl (by kernel_rfl) (by kernel_rfl) (by kernel_rfl) (fun _ _ _ h => h) (Or.inr ⟨by kernel_rfl, rfl⟩) ?_
                  try simp only [Act.put, List.setIfInBounds_toArray, List.set_cons_zero, List.set_cons_succ]
                  refine wpAny_take (i := 14) (oi := { dst := some 84, op := Op.fieldAddr 83 (Operand.tmp 83) 4, type := 0, pos := "ref.go:185", after := #[{ on := 13, ground := Ground.data }, { on := 10, ground := Ground.guard }], guard := some (10, false) }) (v := undef) rfl (by kernel_rfl) (by kernel_rfl) (by kernel_rfl) (fun _ _ _ h => h) (Or.inr ⟨by kernel_rfl, rfl⟩) ?_
                  try simp only [Act.put, List.setIfInBounds_toArray, List.set_cons_zero, List.set_cons_succ]
                  refine wpAny_take (i := 15) (oi := { dst := some 85, op := Op.load 3 (Operand.tmp 84), type := 3, pos := "ref.go:185", after := #[{ on := 14, ground := Ground.data }, { on := 10, ground := Ground.guard }], guard := some (10, false) }) (v := undef) rfl (by kernel_rfl) (by kernel_rfl) (by kernel_rfl) (fun _ _ _ h => h) (Or.inr ⟨by kernel_rfl, rfl⟩) ?_
                  try simp only [Act.put, List.setIfInBounds_toArray, List.set_cons_zero, List.set_cons_succ]
                  refine wpAny_take (i := 16) (oi := { dst := some 86, op := Op.move (Operand.tmp 8), type := 71, pos := "ref.go:185", after := #[{ on := 10, ground := Ground.guard }], guard := some (10, false) }) (v := undef) rfl (by kernel_rfl) (by kernel_rfl) (by kernel_rfl) (fun _ _ _ h => h) (Or.inr ⟨by kernel_rfl, rfl⟩) ?_
                  try simp only [Act.put, List.setIfInBounds_toArray, List.set_cons_zero, List.set_cons_succ]
                  refine wpAny_take (i := 17) (oi := { dst := some 87, op := Op.move (Operand.tmp 13), type := 3, pos := "ref.go:185", after := #[{ on := 10, ground := Ground.guard }], guard := some (10, false) }) (v := undef) rfl (by kernel_rfl) (by kernel_rfl) (by kernel_rfl) (fun _ _ _ h => h) (Or.inr ⟨by kernel_rfl, rfl⟩) ?_
                  try simp only [Act.put, List.setIfInBounds_toArray, List.set_cons_zero, List.set_cons_succ]
                  refine wpAny_take (i := 18) (oi := { dst := some 88, op := Op.indexAddr 71 (Operand.tmp 86) (Operand.tmp 87), type := 0, pos := "ref.go:185", after := #[{ on := 16, ground := Ground.data }, { on := 17, ground := Ground.data }, { on := 10, ground := Ground.guard }], guard := some (10, false) }) (v := undef) rfl (by kernel_rfl) (by kernel_rfl) (by kernel_rfl) (fun _ _ _ h => h) (Or.inr ⟨by kernel_rfl, rfl⟩) ?_
                  try simp only [Act.put, List.setIfInBounds_toArray, List.set_cons_zero, List.set_cons_succ]
                  refine wpAny_take (i := 19) (oi := { dst := some 89, op := Op.fieldAddr 83 (Operand.tmp 88) 4, type := 0, pos := "ref.go:185", after := #[{ on := 18, ground := Ground.data }, { on := 10, ground := Ground.guard }], guard := some (10, false) }) (v := undef) rfl (by kernel_rfl) (by kernel_rfl) (by kernel_rfl) (fun _ _ _ h => h) (Or.inr ⟨by kernel_rfl, rfl⟩) ?_
                  try simp only [Act.put, List.setIfInBounds_toArray, List.set_cons_zero, List.set_cons_succ]
                  refine wpAny_take (i := 20) (oi := { dst := some 90, op := Op.load 3 (Operand.tmp 89), type := 3, pos := "ref.go:185", after := #[{ on := 19, ground := Ground.data }, { on := 10, ground := Ground.guard }], guard := some (10, false) }) (v := undef) rfl (by kernel_rfl) (by kernel_rfl) (by kernel_rfl) (fun _ _ _ h => h) (Or.inr ⟨by kernel_rfl, rfl⟩) ?_
                  try simp only [Act.put, List.setIfInBounds_toArray, List.set_cons_zero, List.set_cons_succ]
                  refine wpAny_take (i := 21) (oi := { dst := some 91, op := Op.binOp BinOp.lss 3 (Operand.tmp 85) (Operand.tmp 90) 3, type := 4, pos := "ref.go:185", after := #[{ on := 15, ground := Ground.data }, { on := 20, ground := Ground.data }, { on := 10, ground := Ground.guard }], guard := some (10, false) }) (v := undef) rfl (by kernel_rfl) (by kernel_rfl) (by kernel_rfl) (fun _ _ _ h => h) (Or.inr ⟨by kernel_rfl, rfl⟩) ?_
                  try simp only [Act.put, List.setIfInBounds_toArray, List.set_cons_zero, List.set_cons_succ]
                  refine wpAny_take (i := 22) (oi := { dst := some 92, op := Op.pick (Operand.tmp 80) (Operand.const (Value.bool true)) (Operand.tmp 91), type := 4, pos := "ref.go:185", after := #[{ on := 10, ground := Ground.data }, { on := 21, ground := Ground.data }, { on := 7, ground := Ground.guard }], guard := some (7, true) }) (v := ?_) rfl (by kernel_rfl) (by kernel_rfl) (by kernel_rfl) (fun _ _ _ h => h) (Or.inl ⟨by rfl, ?_⟩) ?_
                  case refine_2 => (intro w; go_simp; try with_reducible rfl)
                  try simp only [Act.put, List.setIfInBounds_toArray, List.set_cons_zero, List.set_cons_succ]
                  refine wpAny_take (i := 23) (oi := { dst := some 93, op := Op.pick (Operand.tmp 77) (Operand.tmp 92) (Operand.const (Value.bool false)), type := 4, pos := "ref.go:185", after := #[{ on := 7, ground := Ground.data }, { on := 22, ground := Ground.data }], guard := none }) (v := ?_) rfl (by kernel_rfl) (by kernel_rfl) (by kernel_rfl) (fun _ _ _ h => h) (Or.inl ⟨by rfl, ?_⟩) ?_
                  case refine_2 => (intro w; go_simp; try with_reducible rfl)
                  try simp only [Act.put, List.setIfInBounds_toArray, List.set_cons_zero, List.set_cons_succ]
                  refine wpAny_done (by kernel_rfl) ?_ _
                  go_wp2_with fail
                  go_roundw
                  case rel => exact ⟨m + 1, by omega, by go_num, _, rfl, HNX, hide (HW.out.calm (((Below.refl _ _).drew)))⟩
                  case measure => simp [intOf]; omega
                · obtain ⟨bb, hbb, rfl⟩ : ∃ bb : Nat, bb < m ∧ b = (bb : Int) := by
                    rcases hbs with ⟨q, _⟩ | ⟨bb, q1, q2, _⟩
                    · omega
                    · exact ⟨bb, q1, q2⟩
                  obtain ⟨g', hg', f0, f1, f2, f3, f4⟩ := HPF.out _ _ _ HW.out bb (by omega)
                  simp only [Option.some.injEq, Addr.mk.injEq, and_true] at hg'
                  obtain rfl := hg'
                  have hbi : (bb : Int) < (M : Int) := by omega
                  by_cases hlt2 : (G.getD m p0).turn < (G.getD bb p0).turn
                  · have HNX := hide (hbs.take ht (.inr ⟨bb, rfl, hlt2⟩))
                    clear HBI HPF hbs HB ht
                    generalize G.getD m p0 = z at d0 d1 d2 d3 d4 hgt hlt2
                    generalize G.getD bb p0 = y at f0 f1 f2 f3 f4 hlt2
                    go_wp2_with fail
                    refine wp_still_all (by kernel_rfl) (by kernel_rfl) ?_
                    repeat still_step
                    refine wpStill_nil ?_
                    go_wp2_with fail
                    go_roundw
                    case rel => exact ⟨m + 1, by omega, by go_num, _, rfl, HNX, hide (HW.out.calm (((Below.refl _ _).drew)))⟩
                    case measure => simp [intOf]; omega
                  · have HNX := hide (hbs.pass (.inr ⟨bb, rfl, hlt2⟩))
                    clear HBI HPF hbs HB ht
                    generalize G.getD m p0 = z at d0 d1 d2 d3 d4 hgt hlt2
                    generalize G.getD bb p0 = y at f0 f1 f2 f3 f4 hlt2
                    go_wp2_with fail
                    refine wp_still_all (by kernel_rfl) (by kernel_rfl) ?_
                    repeat still_step
                    refine wpStill_nil ?_
                    go_wp2_with fail
                    go_roundw
                    case rel => exact ⟨m + 1, by omega, by go_num, _, rfl, HNX, hide (HW.out.calm (((Below.refl _ _).drew)))⟩
                    case measure => simp [intOf]; omega
              · have hgt : ¬ (G.getD m p0).turn > la := ht
                have HNX := hide (HB.out.pass (.inl ht))
                have hdf : decide (la < (G.getD m p0).turn) = false := decide_eq_false ht
                clear HBI HPF HB ht
                generalize G.getD m p0 = z at d0 d1 d2 d3 d4 hgt hdf
                have hle : z.turn ≤ la := by omega
                go_wp2_with fail
                refine wp_region_any (by kernel_rfl) ?_
                change wpAny _ _ _ _ _ _ _ (World.drew _)
                refine wpAny_take (i := 0) (oi := { dst := some 70, op := Op.move (Operand.tmp 8), type := 71, pos := "ref.go:185", after := #[], guard := none }) (v := ?_) rfl (by kernel_rfl) (by kernel_rfl) (by kernel_rfl) (fun _ _ _ h => h) (Or.inl ⟨by rfl, ?_⟩) ?_
                case refine_2 => (intro w; go_simp; try with_reducible rfl)
                try simp only [Act.put, List.setIfInBounds_toArray, List.set_cons_zero, List.set_cons_succ]
                refine wpAny_take (i := 1) (oi := { dst := some 71, op := Op.move (Operand.tmp 14), type := 3, pos := "ref.go:185", after := #[], guard := none }) (v := ?_) rfl (by kernel_rfl) (by kernel_rfl) (by kernel_rfl) (fun _ _ _ h => h) (Or.inl ⟨by rfl, ?_⟩) ?_
                case refine_2 => (intro w; go_simp; try with_reducible rfl)
                try simp only [Act.put, List.setIfInBounds_toArray, List.set_cons_zero, List.set_cons_succ]
                refine wpAny_take (i := 5) (oi := { dst := some 75, op := Op.move (Operand.tmp 12), type := 3, pos := "ref.go:185", after := #[], guard := none }) (v := ?_) rfl (by kernel_rfl) (by kernel_rfl) (by kernel_rfl) (fun _ _ _ h => h) (Or.inl ⟨by rfl, ?_⟩) ?_
                case refine_2 => (intro w; go_simp; try with_reducible rfl)
                try simp only [Act.put, List.setIfInBounds_toArray, List.set_cons_zero, List.set_cons_succ]
                refine wpAny_ready (rs := [2]) (by kernel_rfl) (by simp) ?_
                refine AllReady.cons (o := { dst := some 72, op := Op.indexAddr 71 (Operand.tmp 70) (Operand.tmp 71), type := 0, pos := "ref.go:185", after := #[{ on := 0, ground := Ground.data }, { on := 1, ground := Ground.data }], guard := none }) rfl (fun K hK => ?_) AllReady.nil
                go_simp
                refine hK _ _ ?_
                clear hK K
                refine wpAny_take (i := 3) (oi := { dst := some 73, op := Op.fieldAddr 83 (Operand.tmp 72) 4, type := 0, pos := "ref.go:185", after := #[{ on := 2, ground := Ground.data }], guard := none }) (v := ?_) rfl (by kernel_rfl) (by kernel_rfl) (by kernel_rfl) (fun _ _ _ h => h) (Or.inl ⟨by rfl, ?_⟩) ?_
                case refine_2 => (intro w; go_simp; try with_reducible rfl)
                try simp only [Act.put, List.setIfInBounds_toArray, List.set_cons_zero, List.set_cons_succ]
                refine wpAny_ready (rs := [4]) (by kernel_rfl) (by simp) ?_
                refine AllReady.cons (o := { dst := some 74, op := Op.load 3 (Operand.tmp 73), type := 3, pos := "ref.go:185", after := #[{ on := 3, ground := Ground.data }], guard := none }) rfl (fun K hK => ?_) AllReady.nil
                go_simp
                refine hK _ _ ?_
                clear hK K
                refine wpAny_take (i := 6) (oi := { dst := some 76, op := Op.binOp BinOp.gtr 3 (Operand.tmp 74) (Operand.tmp 75) 3, type := 4, pos := "ref.go:185", after := #[{ on := 4, ground := Ground.data }, { on := 5, ground := Ground.data }], guard := none }) (v := ?_) rfl (by kernel_rfl) (by kernel_rfl) (by kernel_rfl) (fun _ _ _ h => h) (Or.inl ⟨by rfl, ?_⟩) ?_
                case refine_2 => (intro w; go_simp; try with_reducible rfl)
                try simp only [Act.put, List.setIfInBounds_toArray, List.set_cons_zero, List.set_cons_succ]
                refine wpAny_take (i := 7) (oi := { dst := some 77, op := Op.move (Operand.tmp 76), type := 4, pos := "ref.go:185", after := #[{ on := 6, ground := Ground.data }], guard := none }) (v := ?_) rfl (by kernel_rfl) (by kernel_rfl) (by kernel_rfl) (fun _ _ _ h => h) (Or.inl ⟨by rfl, ?_⟩) ?_
                case refine_2 => (intro w; go_simp; try with_reducible rfl)
                try simp only [Act.put, List.setIfInBounds_toArray, List.set_cons_zero, List.set_cons_succ]
                refine wpAny_take (i := 8) (oi := { dst := some 78, op := Op.move (Operand.tmp 13), type := 3, pos := "ref.go:185", after := #[{ on := 7, ground := Ground.guard }], guard := some (7, true) }) (v := undef) rfl (by kernel_rfl) (by kernel_rfl) (by kernel_rfl) (fun _ _ _ h => h) (Or.inr ⟨by kernel_rfl, rfl⟩) ?_
                try simp only [Act.put, List.setIfInBounds_toArray, List.set_cons_zero, List.set_cons_succ]
                refine wpAny_take (i := 9) (oi := { dst := some 79, op := Op.binOp BinOp.lss 3 (Operand.tmp 78) (Operand.const (Value.int IntKind.i64 0)) 3, type := 4, pos := "ref.go:185", after := #[{ on := 8, ground := Ground.data }, { on := 7, ground := Ground.guard }], guard := some (7, true) }) (v := undef) rfl (by kernel_rfl) (by kernel_rfl) (by kernel_rfl) (fun _ _ _ h => h) (Or.inr ⟨by kernel_rfl, rfl⟩) ?_
                try simp only [Act.put, List.setIfInBounds_toArray, List.set_cons_zero, List.set_cons_succ]
                refine wpAny_take (i := 10) (oi := { dst := some 80, op := Op.move (Operand.tmp 79), type := 4, pos := "ref.go:185", after := #[{ on := 9, ground := Ground.data }, { on := 7, ground := Ground.chain }, { on := 7, ground := Ground.guard }], guard := some (7, true) }) (v := undef) rfl (by kernel_rfl) (by kernel_rfl) (by kernel_rfl) (fun _ _ _ h => h) (Or.inr ⟨by kernel_rfl, rfl⟩) ?_
                try simp only [Act.put, List.setIfInBounds_toArray, List.set_cons_zero, List.set_cons_succ]
                refine wpAny_take (i := 11) (oi := { dst := some 81, op := Op.move (Operand.tmp 8), type := 71, pos := "ref.go:185", after := #[{ on := 10, ground := Ground.guard }], guard := some (10, false) }) (v := undef) rfl (by kernel_rfl) (by kernel_rfl) (by kernel_rfl) (fun _ _ _ h => h) (Or.inr ⟨by kernel_rfl, rfl⟩) ?_
                try simp only [Act.put, List.setIfInBounds_toArray, List.set_cons_zero, List.set_cons_succ]
                refine wpAny_take (i := 12) (oi := { dst := some 82, op := Op.move (Operand.tmp 14), type := 3, pos := "ref.go:185", after := #[{ on := 10, ground := Ground.guard }], guard := some (10, false) }) (v := undef) rfl (by kernel_rfl) (by kernel_rfl) (by kernel_rfl) (fun _ _ _ h => h) (Or.inr ⟨by kernel_rfl, rfl⟩) ?_
                try simp only [Act.put, List.setIfInBounds_toArray, List.set_cons_zero, List.set_cons_succ]
                refine wpAny_take (i := 13) (oi := { dst := some 83, op := Op.indexAddr 71 (Operand.tmp 81) (Operand.tmp 82), type := 0, pos := "ref.go:185", after := #[{ on := 11, ground := Ground.data }, { on := 12, ground := Ground.data }, { on := 10, ground := Ground.guard }], guard := some (10, false) }) (v := undef) rfl (by kernel_rfl) (by kernel_rfl) (by kernel_rfl) (fun _ _ _ h => h) (Or.inr ⟨by kernel_rfl, rfl⟩) ?_
                try simp only [Act.put, List.setIfInBounds_toArray, List.set_cons_zero, List.set_cons_succ]
                refine wpAny_take (i := 14) (oi := { dst := some 84, op := Op.fieldAddr 83 (Operand.tmp 83) 4, type := 0, pos := "ref.go:185", after := #[{ on := 13, ground := Ground.data }, { on := 10, ground := Ground.guard }], guard := some (10, false) }) (v := undef) rfl (by kernel_rfl) (by kernel_rfl) (by kernel_rfl) (fun _ _ _ h => h) (Or.inr ⟨by kernel_rfl, rfl⟩) ?_
                try simp only [Act.put, List.setIfInBounds_toArray, List.set_cons_zero, List.set_cons_succ]
                refine wpAny_take (i := 15) (oi := { dst := some 85, op := Op.load 3 (Operand.tmp 84), type := 3, pos := "ref.go:185", after := #[{ on := 14, ground := Ground.data }, { on := 10, ground := Ground.guard }], guard := some (10, false) }) (v := undef) rfl (by kernel_rfl) (by kernel_rfl) (by kernel_rfl) (fun _ _ _ h => h) (Or.inr ⟨by kernel_rfl, rfl⟩) ?_
                try simp only [Act.put, List.setIfInBounds_toArray, List.set_cons_zero, List.set_cons_succ]
                refine wpAny_take (i := 16) (oi := { dst := some 86, op := Op.move (Operand.tmp 8), type := 71, pos := "ref.go:185", after := #[{ on := 10, ground := Ground.guard }], guard := some (10, false) }) (v := undef) rfl (by kernel_rfl) (by kernel_rfl) (by kernel_rfl) (fun _ _ _ h => h) (Or.inr ⟨by kernel_rfl, rfl⟩) ?_
                try simp only [Act.put, List.setIfInBounds_toArray, List.set_cons_zero, List.set_cons_succ]
                refine wpAny_take (i := 17) (oi := { dst := some 87, op := Op.move (Operand.tmp 13), type := 3, pos := "ref.go:185", after := #[{ on := 10, ground := Ground.guard }], guard := some (10, false) }) (v := undef) rfl (by kernel_rfl) (by kernel_rfl) (by kernel_rfl) (fun _ _ _ h => h) (Or.inr ⟨by kernel_rfl, rfl⟩) ?_
                try simp only [Act.put, List.setIfInBounds_toArray, List.set_cons_zero, List.set_cons_succ]
                refine wpAny_take (i := 18) (oi := { dst := some 88, op := Op.indexAddr 71 (Operand.tmp 86) (Operand.tmp 87), type := 0, pos := "ref.go:185", after := #[{ on := 16, ground := Ground.data }, { on := 17, ground := Ground.data }, { on := 10, ground := Ground.guard }], guard := some (10, false) }) (v := undef) rfl (by kernel_rfl) (by kernel_rfl) (by kernel_rfl) (fun _ _ _ h => h) (Or.inr ⟨by kernel_rfl, rfl⟩) ?_
                try simp only [Act.put, List.setIfInBounds_toArray, List.set_cons_zero, List.set_cons_succ]
                refine wpAny_take (i := 19) (oi := { dst := some 89, op := Op.fieldAddr 83 (Operand.tmp 88) 4, type := 0, pos := "ref.go:185", after := #[{ on := 18, ground := Ground.data }, { on := 10, ground := Ground.guard }], guard := some (10, false) }) (v := undef) rfl (by kernel_rfl) (by kernel_rfl) (by kernel_rfl) (fun _ _ _ h => h) (Or.inr ⟨by kernel_rfl, rfl⟩) ?_
                try simp only [Act.put, List.setIfInBounds_toArray, List.set_cons_zero, List.set_cons_succ]
                refine wpAny_take (i := 20) (oi := { dst := some 90, op := Op.load 3 (Operand.tmp 89), type := 3, pos := "ref.go:185", after := #[{ on := 19, ground := Ground.data }, { on := 10, ground := Ground.guard }], guard := some (10, false) }) (v := undef) rfl (by kernel_rfl) (by kernel_rfl) (by kernel_rfl) (fun _ _ _ h => h) (Or.inr ⟨by kernel_rfl, rfl⟩) ?_
                try simp only [Act.put, List.setIfInBounds_toArray, List.set_cons_zero, List.set_cons_succ]
                refine wpAny_take (i := 21) (oi := { dst := some 91, op := Op.binOp BinOp.lss 3 (Operand.tmp 85) (Operand.tmp 90) 3, type := 4, pos := "ref.go:185", after := #[{ on := 15, ground := Ground.data }, { on := 20, ground := Ground.data }, { on := 10, ground := Ground.guard }], guard := some (10, false) }) (v := undef) rfl (by kernel_rfl) (by kernel_rfl) (by kernel_rfl) (fun _ _ _ h => h) (Or.inr ⟨by kernel_rfl, rfl⟩) ?_
                try simp only [Act.put, List.setIfInBounds_toArray, List.set_cons_zero, List.set_cons_succ]
                refine wpAny_take (i := 22) (oi := { dst := some 92, op := Op.pick (Operand.tmp 80) (Operand.const (Value.bool true)) (Operand.tmp 91), type := 4, pos := "ref.go:185", after := #[{ on := 10, ground := Ground.data }, { on := 21, ground := Ground.data }, { on := 7, ground := Ground.guard }], guard := some (7, true) }) (v := undef) rfl (by kernel_rfl) (by kernel_rfl) (by kernel_rfl) (fun _ _ _ h => h) (Or.inr ⟨by kernel_rfl, rfl⟩) ?_
                try simp only [Act.put, List.setIfInBounds_toArray, List.set_cons_zero, List.set_cons_succ]
                refine wpAny_take (i := 23) (oi := { dst := some 93, op := Op.pick (Operand.tmp 77) (Operand.tmp 92) (Operand.const (Value.bool false)), type := 4, pos := "ref.go:185", after := #[{ on := 7, ground := Ground.data }, { on := 22, ground := Ground.data }], guard := none }) (v := ?_) rfl (by kernel_rfl) (by kernel_rfl) (by kernel_rfl) (fun _ _ _ h => h) (Or.inl ⟨by rfl, ?_⟩) ?_
                case refine_2 => (intro w; go_simp; try with_reducible rfl)
                try simp only [Act.put, List.setIfInBounds_toArray, List.set_cons_zero, List.set_cons_succ]
                refine wpAny_done (by kernel_rfl) ?_ _
                go_wp2_with fail
                go_roundw
                case rel => exact ⟨m + 1, by omega, by go_num, _, rfl, HNX, hide (HW.out.calm (((Below.refl _ _).drew)))⟩
                case measure => simp [intOf]; omega
            · have ek : m = M := by omega
              subst ek
              have hmi : ¬ (m : Int) < (m : Int) := by omega
              obtain ⟨bb, hbb, rfl, hbe⟩ := HBI.out b HB.out
              obtain ⟨g, rfl, d0, d1, d2, d3, d4⟩ := HPF.out _ _ _ HW.out bb hbb
              rw [hbe] at d0 d1 d2 d3 d4
              have hbi : (bb : Int) < (m : Int) := by omega
              have HBE := hide hbe
              clear hbe
              generalize H.getD i p0 = zz at *
              have HW1 := hide (HW.out.calm (below_alloc wr (.cells #[.int .i64 zz.own] 3)))
              have HO1 := hide (one_int wr zz.own)
              clear HBI HB HW
              have HPZ := hide fun wz ov out hx => HPF.out wz ov out hx bb hbb
              clear HPF
              go_wp2_with (at_builtin; refine wpList_appendI _ rfl (.tmp 95) (.tmp 101) rfl _ _ IL [zz.own] rfl rfl HW1.out.orow HO1.out (by have := HJL.out; simp; omega) ?_; intro v6 w6 q1 q2; have HW2 := hide (HW1.out.app q1 q2); obtain ⟨g2, hg2, m0, m1, m2, m3, m4⟩ := HPZ.out _ _ _ HW2.out; simp only [Option.some.injEq, Addr.mk.injEq, and_true] at hg2; obtain rfl := hg2; rw [HBE.out] at m1 m4; obtain ⟨ia6, ic6, ie6⟩ := q1.form'; rw [List.length_append, List.length_singleton] at ie6; subst ie6; clear q1 q2)
              go_roundw
              case rel => exact ⟨i + 1, by omega, by have := HJL.out; simp [lenV]; omega, by rw [HLA.out.2], by rw [HLA.out.1], by rw [HTI.out]; exact HW2⟩
              case measure => have := HJL.out; simp [lenV]; omega
        · have ek : i = M := by omega
          subst ek
          have HRE : Hid (NI w wr (.slice xa ((H.take i).map Pc.own).length xc) (H.map Pc.own)) := hide ⟨HK.out.bel, by rw [← HTE.out, HHL.out]; exact HK.out.orow, HK.out.onew⟩
          have hli : ¬ (((H.take i).map Pc.own).length : Int) < (i : Int) := by have := HJL.out; omega
          have HLM : Hid (lastM H i = lastM H H.length) := hide (by rw [HHL.out])
          generalize (H.take i).map Pc.own = IL at *
          clear HK HTE HBF HTK
          go_wp2_with fail
          go_ret3
          rw [HLM.out]
          exact ⟨_, rfl, HRE.out⟩
end Go.Proofs.Ytijfnacplikibab
namespace Go.Proofs.Ytijfnacplikibab
open Go.RowKit
set_option linter.unusedVariables false
set_option linter.unusedSimpArgs false
set_option maxRecDepth 20000

set_option maxHeartbeats 1000000 in
theorem rholders_no {w : World} {q : Nat} {v : Value} {n room : Nat} {P : List Pc} {T : Nat} (h : RT w q v n room P T) {e : Int} (he : ¬ (0 ≤ e ∧ e < (n : Int))) : Calls Try.prog 26 #[.pointer (some ⟨q, 0, none⟩), .int .i64 e] w fun e' w' => ∃ rv, e' = .returned (.tuple #[rv, .int .i64 0, .int .i64 2]) ∧ NI w w' rv [] := by
  have HT := hide (there_any w q (n : Int) e h.c0)
  rw [show (decide (0 ≤ e) && decide (e < (n : Int))) = false by rw [← Bool.not_eq_true, Bool.and_eq_true, decide_eq_true_eq, decide_eq_true_eq]; exact he] at HT
  clear h he
  go_enter Try.func26, Try.ntmps26
  go_wp2_with (go_at_call 33; refine HT.out.mono ?_; rintro e' w2 ⟨rfl, h9⟩; have h9s := h9.symm; clear h9; subst h9s; clear HT)
  go_ret3
  exact ⟨_, rfl, NI.nil _⟩
/-- the last holder's mode is the first's -/
theorem mode_last {H : List Pc} {l : List (Int × Int)} (hm : H.map kv = l) (hex : (∀ c ∈ l, c.2 = 1) ∨ l.length = 1) : lastM H H.length = modeOf l := by
  subst hm
  cases H with
  | nil => rfl
  | cons x H =>
    have e1 : lastM (x :: H) (x :: H).length = ((x :: H).getD H.length p0).mode := by
      unfold lastM
      rw [if_neg (by simp)]
      simp
    rw [e1]
    show _ = x.mode
    rcases hex with hex | hex
    · have h1 : x.mode = 1 := hex (kv x) (by simp)
      rw [h1]
      have hlt : H.length < (x :: H).length := by simp
      have hg : (x :: H).getD H.length p0 = (x :: H)[H.length] := by simp [List.getD, hlt]
      rw [hg]
      exact hex (kv (x :: H)[H.length]) (List.mem_map.2 ⟨_, List.getElem_mem hlt, rfl⟩)
    · have : H = [] := by simpa using hex
      subst this
      rfl
/-- Holders of an extent, said of the program's lists -/
theorem rholders_any {w : World} {q : Nat} {v : Value} {n room : Nat} {P : List Pc} {T : Nat} {L : LL} (h : RT w q v n room P T) (sm : Sm n L P T) (ok : Ok n L) (hl : P.length ≤ 9000000) {e : Nat} (he : e < n) : Calls Try.prog 26 #[.pointer (some ⟨q, 0, none⟩), .int .i64 (e : Int)] w fun e' w' => ∃ rv, e' = .returned (.tuple #[rv, .int .i64 (modeOf (L (e * 2))), .int .i64 0]) ∧ NI w w' rv ((L (e * 2)).map Prod.fst) := by
  obtain ⟨H, h1, h2, h3⟩ := sm.hd e he
  refine (rholders_in h hl (e := (e : Int)) ⟨by omega, by omega⟩ h1 h2 fun x hx => ?_).mono ?_
  · have := h1.mem_iff.1 hx
    rw [List.mem_filter] at this
    have h4 := this.2
    simp only [hl1, Bool.and_eq_true] at h4
    exact (sm.tn x this.1 h4.2).1
  · rw [mode_last h3 (ok e he).ex, show H.map Pc.own = (L (e * 2)).map Prod.fst by rw [← h3, List.map_map]; rfl]
    exact fun e' w' k => k
/-- Waiters of an extent, said of the program's lists -/
theorem rwaiters_any {w : World} {q : Nat} {v : Value} {n room : Nat} {P : List Pc} {T : Nat} {L : LL} (h : RT w q v n room P T) (sm : Sm n L P T) (hl : P.length ≤ 9000000) {e : Nat} (he : e < n) : Calls Try.prog 28 #[.pointer (some ⟨q, 0, none⟩), .int .i64 (e : Int)] w fun e' w' => ∃ rv, e' = .returned (.tuple #[rv, .int .i64 0]) ∧ NI w w' rv ((L (e * 2 + 1)).map Prod.fst) := by
  have := rwaiters_in h (by omega) (e := (e : Int)) ⟨by omega, by omega⟩
  rwa [show (P.filter (fst1 (e : Int))).map Pc.own = (L (e * 2 + 1)).map Prod.fst by rw [← sm.wt e he, wtP, List.map_map]; rfl] at this
/-- Waiting, said of the program's count -/
theorem rwaiting_wt {w : World} {q : Nat} {v : Value} {n room : Nat} {P : List Pc} {T : Nat} {L : LL} {ws wt : Int} {B : Nat} (h : RT w q v n room P T) (sm : Sm n L P T) (wf : WF n L ws wt B) (hl : P.length ≤ 9000000) : Calls Try.prog 30 #[.pointer (some ⟨q, 0, none⟩)] w fun e' w' => e' = .returned (.int .i64 wt) ∧ w' = w := by
  have := rwaiting_any h (by omega)
  rwa [sm.count, ← wf.sum] at this
/-- Holds, said of the program's lists -/
theorem rholds_has {w : World} {q : Nat} {v : Value} {n room : Nat} {P : List Pc} {T : Nat} {L : LL} (h : RT w q v n room P T) (sm : Sm n L P T) (ok : Ok n L) (hl : P.length ≤ 9000000) {e : Nat} (he : e < n) (o : Int) : Calls Try.prog 24 #[.pointer (some ⟨q, 0, none⟩), .int .i64 (e : Int), .int .i64 o] w fun e' w' => e' = .returned (.bool (has (L (e * 2)) o)) ∧ Below w.heap.size w w' := by
  have k := rholds_any h (by omega) (e : Int) o
  have key : (decide (0 ≤ ixB (fnd (e : Int) o) P) && (P.getD (ixB (fnd (e : Int) o) P).toNat p0).held) = has (L (e * 2)) o := by
    by_cases h0 : 0 ≤ ixB (fnd (e : Int) o) P
    · obtain ⟨f, hf⟩ : ∃ f : Nat, ixB (fnd (e : Int) o) P = (f : Int) := ⟨(ixB (fnd (e : Int) o) P).toNat, by omega⟩
      obtain ⟨hlt, hsp, hfd, -⟩ := ixB_split hf
      have hg : P.getD f p0 = P[f] := by simp [List.getD, hlt]
      rw [hf, decide_eq_true (by omega), Bool.true_and, Int.toNat_natCast, hg]
      simp only [fnd, Bool.and_eq_true, beq_iff_eq] at hfd
      have hm : P[f] ∈ P := List.getElem_mem hlt
      have nd := (ok e he).nd
      rw [List.map_append, List.nodup_append] at nd
      cases hh : P[f].held with
      | true => exact (has_mem.2 (List.mem_map.2 ⟨kv P[f], (sm.memH he _).2 ⟨P[f], hm, by simp [hl1, hfd.1, hh], rfl⟩, hfd.2⟩)).symm
      | false =>
        have hw : o ∈ (L (e * 2 + 1)).map Prod.fst := List.mem_map.2 ⟨kv P[f], (sm.memW he _).2 ⟨P[f], hm, by simp [fst1, hfd.1, hh], rfl⟩, hfd.2⟩
        exact (has_not.2 fun q => nd.2.2 _ q _ hw rfl).symm
    · rw [decide_eq_false h0, Bool.false_and]
      symm
      have := mt (sm.find he o).2 h0
      rw [Bool.or_eq_true, not_or] at this
      simpa using this.1
  rwa [key] at k
end Go.Proofs.Ytijfnacplikibab
namespace Go.Proofs.Ytijfnacplikibab
open Go.RowKit
set_option linter.unusedVariables false
set_option linter.unusedSimpArgs false
set_option maxRecDepth 20000

/-- a list goes into a list of lists -/
theorem run_appendLL (w : World) (ty : TypeId) (tv : Value) (n : Nat) (xs : List Value) (ht : w.ownsRow 0 50 1 tv n xs) (a : Addr) (c : Nat) (u : Value) (ho : u.oneCell' = true) (hx : w.cell? a = some u) (hb : n ≤ 9000000000000) :
    ∃ v' w', (Builtin.append_ #[29, 29] ty #[tv, .slice (some a) 1 c]).run Try.prog w = .ok v' w' ∧ w'.ownsRow 0 50 1 v' (n + 1) (xs ++ [u]) ∧ App w w' tv v' := by
  obtain ⟨i, hi, hz0, hz1, hz2⟩ := info_parts info_words
  have hul : Try.prog.underlying 29 = some (.slice 50) := Try.underlying29
  obtain ⟨v', w', hr, ho, hu⟩ := run_appendC (P := Try.prog) w 29 ty 50 i (.slice none 0 0) 1 24 hul hi hz0 hz1 hz2 rfl (by decide) tv n xs ht a 1 c [u] rfl (by decide) (fun j y hj => by
    cases j with
    | zero => simp at hj; subst hj; simpa [Addr.add] using hx
    | succ j => simp at hj) (by simpa using ho) (by unfold maxLen; omega) (by omega)
  exact ⟨v', w', hr, ho, ⟨⟨hu.same.1, hu.same.2.1, hu.same.2.2, hu.size, fun g hg hn => hu.block g hg hn⟩, fun g e => (hu.loc g e).elim .inl fun e => .inr (by omega)⟩⟩
theorem wpList_appendLL (w : World) {ops : Array Oper} {rest : List Oper} {o : Oper} {a : Act} {Q : Exit → Act → World → Prop} (hgd : o.guard = none) (s x : Operand)
    (hop : o.op = .call { callee := .builtin .append, args := #[s, x], argTypes := #[29, 29] })
    (tv : Value) (n : Nat) (xs : List Value) (hs : a.eval s = tv) (ht : w.ownsRow 0 50 1 tv n xs) (ad : Addr) (c : Nat) (u : Value) (hx : a.eval x = .slice (some ad) 1 c) (ho : u.oneCell' = true) (hc : w.cell? ad = some u) (hb : n ≤ 9000000000000)
    (h : ∀ v' w', w'.ownsRow 0 50 1 v' (n + 1) (xs ++ [u]) → App w w' tv v' → wpList Try.prog ops Q rest (a.put o.dst v') w') :
    wpList Try.prog ops Q (o :: rest) a w := by
  refine wpList_plain hgd fun K hK => ?_
  obtain ⟨v', w', hr, h2, h3⟩ := run_appendLL w o.type tv n xs ht ad c u ho hc hb
  unfold Oper.wp execOp
  simp only [hop, resolve, invoke, builtin, Sem.run_bind, Sem.run_pure, Result.andThen_ok, List.map_toArray, List.map_cons, List.map_nil, hs, hx, hr]
  exact hK _ _ (h v' w' h2 h3)
theorem step_appendLL {w : World} {ops : Array Oper} {o : Oper} {a : Act} {K : Act → World → Prop} {Q : Exit → Act → World → Prop} {E : Prop} (hgd : o.guard = none) (s x : Operand)
    (hop : o.op = .call { callee := .builtin .append, args := #[s, x], argTypes := #[29, 29] })
    (tv : Value) (n : Nat) (xs : List Value) (hs : a.eval s = tv) (ht : w.ownsRow 0 50 1 tv n xs) (ad : Addr) (c : Nat) (u : Value) (hx : a.eval x = .slice (some ad) 1 c) (ho : u.oneCell' = true) (hc : w.cell? ad = some u) (hb : n ≤ 9000000000000)
    (h : ∀ v' w', w'.ownsRow 0 50 1 v' (n + 1) (xs ++ [u]) → App w w' tv v' → K (a.put o.dst v') w') :
    if Region.wanted o (yielded ops a.tmps) = true then Oper.wp Try.prog o a w K Q else E := by
  have hw : Region.wanted o (yielded ops a.tmps) = true := by simp [Region.wanted, hgd]
  rw [if_pos hw]
  obtain ⟨v', w', hr, h2, h3⟩ := run_appendLL w o.type tv n xs ht ad c u ho hc hb
  unfold Oper.wp execOp
  simp only [hop, resolve, invoke, builtin, Sem.run_bind, Sem.run_pure, Result.andThen_ok, List.map_toArray, List.map_cons, List.map_nil, hs, hx, hr]
  exact h v' w' h2 h3
/-- a new list of none -/
theorem none_int (w : World) : IRow (w.alloc (.cells #[] 3)) (.slice (some ⟨w.heap.size, 0, none⟩) 0 0) [] :=
  ⟨rfl, .inr ⟨w.heap.size, 0, #[], rfl, Nat.zero_le _, Go.heap_alloc_new w _, Nat.le_refl _, by unfold maxLen; omega, by simp, by simp⟩⟩
/-- the late book: its row, what it was handed, what that was -/
structure LB (x : World) (k : Nat) (bv rv wv : Value) (rs ws : List Value) : Prop where
  row : x.heap[k]? = some (.cells #[bv, .bool true, rv, wv] 31 (0, 0))
  r : x.ownsRow 0 50 1 rv rs.length rs
  w : x.ownsRow 0 50 1 wv ws.length ws
  ne : ∀ g, rv.ownBlock = some g → wv.ownBlock ≠ some g
theorem llrow_cells {x : World} {v : Value} {n : Nat} {xs : List Value} (h : x.ownsRow 0 50 1 v n xs) {g : Nat} (e : v.ownBlock = some g) : ∃ cs, x.heap[g]? = some (.cells cs 50 (0, 0)) := by
  rcases h.2 with ⟨rfl, hz⟩ | ⟨g', cap, cur, rfl, _, hg, _⟩
  · simp [Value.ownBlock] at e
  · simp only [Value.ownBlock, Option.some.injEq] at e
    subst e
    exact ⟨cur, hg⟩
theorem llrow_form {x : World} {v : Value} {n : Nat} {xs : List Value} (h : x.ownsRow 0 50 1 v n xs) : ∃ a c, v = .slice a n c := by
  rcases h.2 with ⟨rfl, hz⟩ | ⟨g', cap, cur, rfl, _, hg, _⟩
  · exact ⟨none, 0, by rw [hz]⟩
  · exact ⟨_, _, rfl⟩
section
variable {x y w3 : World} {k : Nat} {bv rv wv rv' wv' u : Value} {rs ws : List Value}
theorem LB.calm (h : LB x k bv rv wv rs ws) (hb : Below x.heap.size x y) : LB y k bv rv wv rs ws := ⟨(hb.block k (Array.getElem?_eq_some_iff.1 h.row).1).trans h.row, rowKept h.r fun g e => hb.block g (World.ownsRow.lt h.r g e).2, rowKept h.w fun g e => hb.block g (World.ownsRow.lt h.w g e).2, h.ne⟩
theorem LB.c (h : LB x k bv rv wv rs ws) (i : Nat) : x.cell? ⟨k, i, none⟩ = (#[bv, .bool true, rv, wv] : Array Value)[i]? := cell_of_row _ _ _ _ _ _ h.row
theorem LB.ll_ne {v : Value} {n : Nat} {xs : List Value} {c9 : Array Value} (h : x.ownsRow 0 50 1 v n xs) (hr : x.heap[k]? = some (.cells c9 31 (0, 0))) {g : Nat} (e : v.ownBlock = some g) : g ≠ k := fun e2 => by
  subst e2
  obtain ⟨cs, hc⟩ := llrow_cells h e
  exact neType hc hr (by decide) rfl
theorem LB.pushR (h : LB y k bv rv wv rs ws) (ho : w3.ownsRow 0 50 1 rv' (rs.length + 1) (rs ++ [u])) (ha : App y w3 rv rv') :
    LB (w3.setCell ⟨k, 2, none⟩ rv') k bv rv' wv (rs ++ [u]) ws ∧ Chg (fun g => g = k ∨ rv.ownBlock = some g) y (w3.setCell ⟨k, 2, none⟩ rv') ∧ w3.cell? ⟨k, 2, none⟩ = some rv ∧ w3.frozen? ⟨k, 2, none⟩ = false := by
  have hbl := (Array.getElem?_eq_some_iff.1 h.row).1
  have hrow := (ha.chg.keep k hbl fun e => LB.ll_ne h.r h.row e rfl).trans h.row
  refine ⟨⟨Go.heap_setCell_same w3 k 2 _ 31 _ hrow, ?_, rowKept h.w fun g e => (Go.heap_setCell_other _ _ _ _ (show g ≠ k from LB.ll_ne h.w h.row e)).trans (ha.chg.keep g (World.ownsRow.lt h.w g e).2 fun e2 => h.ne g e2 e), fun g e e2 => ?_⟩, Chg.set (U := fun g => g = k ∨ rv.ownBlock = some g) ⟨ha.chg.os, ha.chg.tape, ha.chg.output, ha.chg.size, fun g hg hn => ha.chg.keep g hg fun e => hn (.inr e)⟩ k 2 _ (.inl (.inl rfl)), (cell_of_row _ _ _ _ _ _ hrow).trans rfl, frozen_of_row _ _ _ _ 31 hrow⟩
  · rw [List.length_append, List.length_singleton]
    exact rowKept ho fun g e => Go.heap_setCell_other _ _ _ _ (show g ≠ k from LB.ll_ne ho hrow e)
  · rcases ha.loc g e with e3 | e3
    · exact h.ne g e3 e2
    · have := (World.ownsRow.lt h.w g e2).2
      omega
theorem LB.pushW (h : LB y k bv rv wv rs ws) (ho : w3.ownsRow 0 50 1 wv' (ws.length + 1) (ws ++ [u])) (ha : App y w3 wv wv') :
    LB (w3.setCell ⟨k, 3, none⟩ wv') k bv rv wv' rs (ws ++ [u]) ∧ Chg (fun g => g = k ∨ wv.ownBlock = some g) y (w3.setCell ⟨k, 3, none⟩ wv') ∧ w3.cell? ⟨k, 3, none⟩ = some wv ∧ w3.frozen? ⟨k, 3, none⟩ = false := by
  have hbl := (Array.getElem?_eq_some_iff.1 h.row).1
  have hrow := (ha.chg.keep k hbl fun e => LB.ll_ne h.w h.row e rfl).trans h.row
  refine ⟨⟨Go.heap_setCell_same w3 k 3 _ 31 _ hrow, rowKept h.r fun g e => (Go.heap_setCell_other _ _ _ _ (show g ≠ k from LB.ll_ne h.r h.row e)).trans (ha.chg.keep g (World.ownsRow.lt h.r g e).2 fun e2 => h.ne g e e2), ?_, fun g e e2 => ?_⟩, Chg.set (U := fun g => g = k ∨ wv.ownBlock = some g) ⟨ha.chg.os, ha.chg.tape, ha.chg.output, ha.chg.size, fun g hg hn => ha.chg.keep g hg fun e => hn (.inr e)⟩ k 3 _ (.inl (.inl rfl)), (cell_of_row _ _ _ _ _ _ hrow).trans rfl, frozen_of_row _ _ _ _ 31 hrow⟩
  · rw [List.length_append, List.length_singleton]
    exact rowKept ho fun g e => Go.heap_setCell_other _ _ _ _ (show g ≠ k from LB.ll_ne ho hrow e)
  · rcases ha.loc g e2 with e3 | e3
    · exact h.ne g e e3
    · have := (World.ownsRow.lt h.r g e).2
      omega
end
end Go.Proofs.Ytijfnacplikibab
namespace Go.Proofs.Ytijfnacplikibab
open Go.RowKit
set_option linter.unusedVariables false
set_option linter.unusedSimpArgs false
set_option maxRecDepth 20000

/-- a late book has been handed a list -/
def KlP (w : World) (k : Nat) (bv rv wv : Value) (rs ws : List Value) (u : Value) (l : List Int) (e : Ending) (y : World) : Prop := ∃ rv' wv' t, e = .returned (.tuple #[]) ∧ LB y k bv rv' wv' (rs ++ [u]) (ws ++ [t]) ∧ IRow y t l ∧ (∀ g, t.ownBlock = some g → w.heap.size ≤ g) ∧ Chg (fun g => g = k ∨ rv.ownBlock = some g ∨ wv.ownBlock = some g) w y ∧ (∀ g, rv'.ownBlock = some g → rv.ownBlock = some g ∨ w.heap.size ≤ g) ∧ ∀ g, wv'.ownBlock = some g → wv.ownBlock = some g ∨ w.heap.size ≤ g
theorem irow_by {x y : World} {v vv : Value} {k n : Nat} {l : List Int} {xs : List Value} {c9 : Array Value} (h : IRow x v l) (hr : x.heap[k]? = some (.cells c9 31 (0, 0))) (hv : x.ownsRow 0 50 1 vv n xs) (hc : Chg (fun g => g = k ∨ vv.ownBlock = some g) x y) : IRow y v l := rowKept h fun g e => hc.keep g (h.lt' e) (by
  obtain ⟨cs, hcs⟩ := h.cellsOf e
  rintro (e9 | e9)
  · exact neType hcs hr (by decide) e9
  · obtain ⟨ds, hds⟩ := llrow_cells hv e9
    exact neType hcs hds (by decide) rfl)
set_option maxHeartbeats 2000000 in
theorem keep_late {w : World} {k : Nat} {bv rv wv : Value} {rs ws : List Value} (h : LB w k bv rv wv rs ws) {u : Value} {l : List Int} (hu : IRow w u l) (hl : l.length ≤ 10000000) (hr : rs.length ≤ 100000000) (hw : ws.length ≤ 100000000) : Calls Try.prog 20 #[.pointer (some ⟨k, 0, none⟩), u] w (KlP w k bv rv wv rs ws u l) := by
  obtain ⟨ua, uc, ue⟩ := hu.form'
  subst ue
  obtain ⟨ra, rc, re⟩ := llrow_form h.r
  obtain ⟨wa, wc, we⟩ := llrow_form h.w
  subst re
  subst we
  have c1 : w.cell? ⟨k, 1, none⟩ = some (.bool true) := (h.c 1).trans rfl
  have c2 : w.cell? ⟨k, 2, none⟩ = some (.slice ra rs.length rc) := (h.c 2).trans rfl
  have hk1 := below_alloc w (.cells #[.slice ua l.length uc] 50)
  have HB1 := hide (h.calm hk1)
  have HU1 := hide (hu.below' hk1)
  have HC1 : Hid (Chg (fun g => g = k ∨ (Value.slice ra rs.length rc).ownBlock = some g ∨ (Value.slice wa ws.length wc).ownBlock = some g) w (w.alloc (.cells #[.slice ua l.length uc] 50))) := hide (Chg.ofBelow hk1)
  have HN1 := hide (show (w.alloc (.cells #[.slice ua l.length uc] 50)).cell? ⟨w.heap.size, 0, none⟩ = some (.slice ua l.length uc) by rw [cell_of_row _ _ _ _ _ _ (Go.heap_alloc_new w _)]; rfl)
  clear h hu hk1
  go_enter Try.func20, Try.ntmps20
  go_wp2_with (at_builtin; refine wpList_appendLL _ rfl (.tmp 16) (.tmp 18) rfl _ rs.length rs rfl HB1.out.r ⟨w.heap.size, 0, none⟩ 1 (.slice ua l.length uc) rfl rfl HN1.out (by omega) ?_; intro v6 w6 q1 q2; obtain ⟨p1, p2, p3, p4⟩ := HB1.out.pushR q1 q2; have HB2 := hide p1; have HU2 := hide (irow_by HU1.out HB1.out.row HB1.out.r p2); have HC2 := hide (HC1.out.trans2 p2 (fun g hg e9 => e9.elim .inl fun e9 => .inr (.inl e9))); have HL2 : Hid (∀ g, v6.ownBlock = some g → (Value.slice ra rs.length rc).ownBlock = some g ∨ w.heap.size ≤ g) := hide (fun g e9 => (q2.loc g e9).imp id fun z => Nat.le_trans HC1.out.size z); obtain ⟨a7, c7, e7⟩ := llrow_form q1; subst e7; clear q1 q2 p1 p2)
  clear HB1 HU1 HC1 HN1 c1 c2 p3 p4
  generalize w6.setCell ⟨k, 2, none⟩ _ = w7 at *
  have t3 : w7.cell? ⟨k, 3, none⟩ = some (.slice wa ws.length wc) := (HB2.out.c 3).trans rfl
  have t3a := cell_alloc (.cells #[] 3) t3
  have hb7 : Below w7.heap.size w7 (w7.drew.alloc (.cells #[] 3)) := ((Below.refl _ w7).drew).alloc (Nat.le_refl _) _
  have HX8 := hide (HU2.out.below' hb7)
  have HG8 := hide (none_int w7.drew)
  have HB8 : Hid (∀ v8 w8, App (w7.drew.alloc (.cells #[] 3)) w8 (.slice (some ⟨w7.heap.size, 0, none⟩) 0 0) v8 → Below w7.heap.size w7 w8 ∧ ∀ g, v8.ownBlock = some g → w.heap.size ≤ g) := hide fun v8 w8 q => ⟨hb7.trans (q.chg.below hb7.size fun g e => by simp only [Value.ownBlock, Option.some.injEq] at e; omega), fun g e => by
    have := HC2.out.size
    have := hb7.size
    rcases q.loc g e with e2 | e2
    · simp only [Value.ownBlock, Option.some.injEq] at e2; omega
    · omega⟩
  clear hb7
  go_region_law (first
    | (refine step_appendI rfl (.tmp 27) (.tmp 28) rfl _ (.slice ua l.length uc) [] l rfl rfl HG8.out HX8.out (by simp; omega) ?_; intro v8 w8 q1 q2; obtain ⟨q3, q4⟩ := HB8.out v8 w8 q2; have HT1 := hide q1; have HNW := hide q4; have HW8 := hide q3; have HBk := hide (HB2.out.calm HW8.out); have t8 : w8.cell? ⟨k, 3, none⟩ = some (.slice wa ws.length wc) := (HBk.out.c 3).trans rfl; obtain ⟨a8, c8, e8⟩ := q1.form'; rw [List.nil_append] at e8; subst e8; have t8a := cell_alloc (.cells #[.slice a8 l.length c8] 50) t8; have hk9 := below_alloc w8 (.cells #[.slice a8 l.length c8] 50); have HB9 := hide (HBk.out.calm hk9); have HT9 := hide (HT1.out.below' hk9); have HC9 := hide ((HC2.out.trans (Chg.ofBelow HW8.out)).trans (Chg.ofBelow hk9)); have HN9 := hide (show (w8.alloc (.cells #[.slice a8 l.length c8] 50)).cell? ⟨w8.heap.size, 0, none⟩ = some (.slice a8 l.length c8) by rw [cell_of_row _ _ _ _ _ _ (Go.heap_alloc_new w8 _)]; rfl); clear q1 q2 q3 q4 hk9)
    | (refine step_appendLL rfl (.tmp 26) (.tmp 30) rfl _ ws.length ws rfl HB9.out.w ⟨w8.heap.size, 0, none⟩ 1 (.slice a8 l.length c8) rfl rfl HN9.out (by omega) ?_; intro v9 w9 q1 q2; obtain ⟨p1, p2, p3, p4⟩ := HB9.out.pushW q1 q2; have HB10 := hide p1; have HT10 := hide (irow_by HT9.out HB9.out.row HB9.out.w p2); have HC10 := hide (HC9.out.trans2 p2 (fun g hg e9 => e9.elim .inl fun e9 => .inr (.inr e9))); have HL10 : Hid (∀ g, v9.ownBlock = some g → (Value.slice wa ws.length wc).ownBlock = some g ∨ w.heap.size ≤ g) := hide (fun g e9 => (q2.loc g e9).imp id fun z => Nat.le_trans HC9.out.size z); obtain ⟨a10, c10, e10⟩ := llrow_form q1; subst e10; clear q1 q2 p1 p2))
  all_goals
    go_wp2_with fail
    (try simp only [Exit.inBlock, Exit.then]); refine bodyPost_ret (results_none rfl _ _ _) rfl ?_
    exact ⟨_, _, _, rfl, HB10.out, HT10.out, HNW.out, HC10.out, HL2.out, HL10.out⟩
end Go.Proofs.Ytijfnacplikibab
namespace Go.Proofs.Ytijfnacplikibab
open Go.RowKit
set_option linter.unusedVariables false
set_option linter.unusedSimpArgs false
set_option maxRecDepth 20000

/-- what keep leaves of a late book -/
structure Lt (w w' : World) (k : Nat) (bv raw was raw' was' v u : Value) (vs us : List Value) (l : List Int) : Prop where
  row : w'.heap[k]? = some (.cells #[bv, .bool true, raw', was'] 31 (0, 0))
  ro : w'.ownsRow 0 50 1 raw' (vs.length + 1) (vs ++ [v])
  wo : w'.ownsRow 0 50 1 was' (us.length + 1) (us ++ [u])
  ws : ISl w' u l
  chg : Chg (fun b => b = k ∨ raw.ownBlock = some b ∨ was.ownBlock = some b) w w'
  rl : ∀ b, raw'.ownBlock = some b → raw.ownBlock = some b ∨ w.heap.size ≤ b
  wl : ∀ b, was'.ownBlock = some b → was.ownBlock = some b ∨ w.heap.size ≤ b
  ul : ∀ b, u.ownBlock = some b → w.heap.size ≤ b
  ne : ∀ b, raw'.ownBlock = some b → was'.ownBlock ≠ some b
  ub : ∀ b, u.ownBlock = some b → raw'.ownBlock ≠ some b ∧ was'.ownBlock ≠ some b ∧ b ≠ k ∧ b < w'.heap.size
theorem keepLate_any {w : World} {k : Nat} {bv raw was v : Value} {vs us : List Value} {l : List Int} (hrow : w.heap[k]? = some (.cells #[bv, .bool true, raw, was] 31 (0, 0)))
    (hro : w.ownsRow 0 50 1 raw vs.length vs) (hwo : w.ownsRow 0 50 1 was us.length us) (hne : ∀ b, raw.ownBlock = some b → was.ownBlock ≠ some b) (hv : w.ownsRow 0 3 1 v l.length (l.map iV)) (hw : ISl w v l)
    (hl : l.length ≤ 10000000) (hn1 : vs.length ≤ 100000000) (hn2 : us.length ≤ 100000000) :
    Calls Try.prog 20 #[.pointer (some ⟨k, 0, none⟩), v] w fun e w' => e = .returned (.tuple #[]) ∧ ∃ raw' was' u, Lt w w' k bv raw was raw' was' v u vs us l := by
  refine (keep_late ⟨hrow, hro, hwo, hne⟩ hv hl hn1 hn2).mono ?_
  rintro e w' ⟨rv', wv', t, rfl, hB, hT, hN, hC, hR, hW⟩
  refine ⟨rfl, rv', wv', t, ⟨hB.row, by have := hB.r; rwa [List.length_append] at this, by have := hB.w; rwa [List.length_append] at this, isl_row hT, hC, hR, hW, hN, hB.ne, fun b e => ?_⟩⟩
  obtain ⟨cs, hcs⟩ := hT.cellsOf e
  refine ⟨fun e2 => ?_, fun e2 => ?_, neType hcs hB.row (by decide), hT.lt' e⟩
  · obtain ⟨ds, hds⟩ := llrow_cells hB.r e2
    exact neType hcs hds (by decide) rfl
  · obtain ⟨ds, hds⟩ := llrow_cells hB.w e2
    exact neType hcs hds (by decide) rfl

/-- the blocks that the book's entries lie in -/
def Ent (raw was : Value) (ys vs us : List Value) (b : Nat) : Prop := raw.ownBlock = some b ∨ was.ownBlock = some b ∨ ∃ x, (x ∈ ys ∨ x ∈ vs ∨ x ∈ us) ∧ x.ownBlock = some b
theorem blockOf_own {v : Value} {b : Nat} (h : blockOf v = some b) : v.ownBlock = some b := by
  cases v <;> simp_all [blockOf, Value.ownBlock]
  rename_i a n c
  cases a with
  | none => simp [blockOf] at h
  | some ad => simpa [blockOf, Value.ownBlock] using h
theorem BkS.kept {w w' : World} {k : Nat} {late : Bool} {bv raw was : Value} {ys vs us : List Value} (h : BkS w k late bv raw was ys vs us) (hk : ∀ b, b < w.heap.size → (b = k ∨ bv.ownBlock = some b ∨ Ent raw was ys vs us b) → w'.heap[b]? = w.heap[b]?) : BkS w' k late bv raw was ys vs us := by
  have hkl := (Array.getElem?_eq_some_iff.1 h.row).1
  refine ⟨(hk _ hkl (.inl rfl)).trans h.row, rowKept h.bo fun g e => hk g (h.bo.lt g e).2 (.inr (.inl e)), rowKept h.ro fun g e => hk g (h.ro.lt g e).2 (.inr (.inr (.inl e))), rowKept h.wo fun g e => hk g (h.wo.lt g e).2 (.inr (.inr (.inr (.inl e)))), h.len, fun j u v h1 h2 => ?_, fun j v h1 => ?_⟩
  · obtain ⟨l1, l2, a, b, c⟩ := h.re j u v h1 h2
    exact ⟨l1, l2, a.keptIf fun g e hg => hk g hg (.inr (.inr (.inr (.inr ⟨v, .inr (.inl (List.mem_of_getElem? h1)), blockOf_own e⟩)))), b.keptIf fun g e hg => hk g hg (.inr (.inr (.inr (.inr ⟨u, .inr (.inr (List.mem_of_getElem? h2)), blockOf_own e⟩)))), c⟩
  · obtain ⟨m, a⟩ := h.le j v h1
    exact ⟨m, a.keptIf fun g e hg => hk g hg (.inr (.inr (.inr (.inr ⟨v, .inl (List.mem_of_getElem? h1), blockOf_own e⟩))))⟩
/-- keep, of a book that is not late -/
theorem keepS_any {w : World} {k n : Nat} {bv raw was v : Value} {ys vs us xs : List Value} (h : BkS w k false bv raw was ys vs us) (hev : ys.length % 2 = 0) (hv : w.ownsRow 0 3 1 v n xs) (hn : n ≤ 17592186044416) (hnl : ys.length ≤ 9000000000000)
    (hap : ∀ b, Ent raw was ys vs us b → b ≠ k ∧ bv.ownBlock ≠ some b ∧ v.ownBlock ≠ some b) :
    Calls Try.prog 20 #[.pointer (some ⟨k, 0, none⟩), v] w fun e w' => e = .returned (.tuple #[]) ∧ ∃ bv' gv, BkS w' k false bv' raw was (ys ++ [v, gv]) vs us ∧ Kp w w' k ys.length n bv v raw was ys bv' gv := by
  refine (keep_any ⟨h.row, h.bo⟩ hv hn hnl).mono ?_
  rintro e w' ⟨rfl, bv', gv, hK⟩
  have hk : ∀ b, b < w.heap.size → Ent raw was ys vs us b → w'.heap[b]? = w.heap[b]? := fun b hb he => hK.chg.keep b hb (by
    obtain ⟨h1, h2, h3⟩ := hap b he
    rintro (e | e | e)
    · exact h1 e
    · exact h2 e
    · exact h3 e)
  have hll : (ys ++ [v, gv]).length = ys.length + 2 := by simp
  refine ⟨rfl, bv', gv, ⟨hK.bk.row, by rw [hll]; exact hK.bk.bo, rowKept h.ro fun g e => hk g (h.ro.lt g e).2 (.inl e), rowKept h.wo fun g e => hk g (h.wo.lt g e).2 (.inr (.inl e)), h.len, fun j u x h1 h2 => ?_, fun j x h1 => ?_⟩, hK⟩
  · obtain ⟨l1, l2, a, b, c⟩ := h.re j u x h1 h2
    exact ⟨l1, l2, a.keptIf fun g e hg => hk g hg (.inr (.inr ⟨x, .inr (.inl (List.mem_of_getElem? h1)), blockOf_own e⟩)), b.keptIf fun g e hg => hk g hg (.inr (.inr ⟨u, .inr (.inr (List.mem_of_getElem? h2)), blockOf_own e⟩)), c⟩
  · by_cases hj : j < ys.length
    · rw [List.getElem?_append_left hj] at h1
      obtain ⟨m, a⟩ := h.le j x h1
      exact ⟨m, a.keptIf fun g e hg => hk g hg (.inr (.inr ⟨x, .inl (List.mem_of_getElem? h1), blockOf_own e⟩))⟩
    · rw [List.getElem?_append_right (by omega)] at h1
      have hc : j - ys.length = 0 ∨ j - ys.length = 1 ∨ 2 ≤ j - ys.length := by omega
      rcases hc with hc | hc | hc
      · rw [hc] at h1
        have e1 : v = x := by simpa using h1
        subst e1
        have e2 : j - j % 2 = ys.length := by omega
        exact ⟨n, by rw [e2]; exact hK.one⟩
      · rw [hc] at h1
        have e1 : gv = x := by simpa using h1
        subst e1
        have e2 : j - j % 2 = ys.length := by omega
        exact ⟨n + 80, by rw [e2]; exact hK.two⟩
      · rw [List.getElem?_eq_none (by simpa using hc)] at h1
        cases h1
/-- keep, of a late book -/
theorem keepLateS_any {w : World} {k : Nat} {bv raw was v : Value} {ys vs us : List Value} {l : List Int} (h : BkS w k true bv raw was ys vs us) (hne : ∀ b, raw.ownBlock = some b → was.ownBlock ≠ some b) (hv : w.ownsRow 0 3 1 v l.length (l.map iV)) (hw : ISl w v l)
    (hl : l.length ≤ 10000000) (hn : vs.length ≤ 100000000)
    (hap : ∀ b, (bv.ownBlock = some b ∨ ∃ x, (x ∈ ys ∨ x ∈ vs ∨ x ∈ us) ∧ x.ownBlock = some b) → b ≠ k ∧ raw.ownBlock ≠ some b ∧ was.ownBlock ≠ some b) :
    Calls Try.prog 20 #[.pointer (some ⟨k, 0, none⟩), v] w fun e w' => e = .returned (.tuple #[]) ∧ ∃ raw' was' u, BkS w' k true bv raw' was' ys (vs ++ [v]) (us ++ [u]) ∧ Lt w w' k bv raw was raw' was' v u vs us l := by
  have hlen := h.len
  refine (keepLate_any h.row h.ro h.wo hne hv hw hl hn (by omega)).mono ?_
  rintro e w' ⟨rfl, raw', was', u, hL⟩
  have hk : ∀ b, b < w.heap.size → (bv.ownBlock = some b ∨ ∃ x, (x ∈ ys ∨ x ∈ vs ∨ x ∈ us) ∧ x.ownBlock = some b) → w'.heap[b]? = w.heap[b]? := fun b hb he => hL.chg.keep b hb (by
    obtain ⟨h1, h2, h3⟩ := hap b he
    rintro (e | e | e)
    · exact h1 e
    · exact h2 e
    · exact h3 e)
  have hvk : ∀ b, v.ownBlock = some b → w'.heap[b]? = w.heap[b]? := fun b e => hL.chg.keep b (hv.lt b e).2 (by
    obtain ⟨cs, hcs⟩ := rowCells hv e
    rintro (e2 | e2 | e2)
    · exact neType hcs h.row (by decide) e2
    · obtain ⟨ds, hds⟩ := rowCells h.ro e2; exact neType hcs hds (by decide) rfl
    · obtain ⟨ds, hds⟩ := rowCells h.wo e2; exact neType hcs hds (by decide) rfl)
  refine ⟨rfl, raw', was', u, ⟨hL.row, rowKept h.bo fun g e => hk g (h.bo.lt g e).2 (.inl e), by rw [List.length_append]; exact hL.ro, by rw [List.length_append]; exact hL.wo, by simp [hlen], fun j y x h1 h2 => ?_, fun j x h1 => ?_⟩, hL⟩
  · by_cases hj : j < vs.length
    · rw [List.getElem?_append_left hj] at h1
      rw [List.getElem?_append_left (by omega)] at h2
      obtain ⟨l1, l2, a, b, c⟩ := h.re j y x h1 h2
      exact ⟨l1, l2, a.keptIf fun g e hg => hk g hg (.inr ⟨x, .inr (.inl (List.mem_of_getElem? h1)), blockOf_own e⟩), b.keptIf fun g e hg => hk g hg (.inr ⟨y, .inr (.inr (List.mem_of_getElem? h2)), blockOf_own e⟩), c⟩
    · rw [List.getElem?_append_right (by omega)] at h1 h2
      by_cases hc : j - vs.length = 0
      · rw [hc] at h1
        rw [hlen, hc] at h2
        have e1 : v = x := by simpa using h1
        have e2 : u = y := by simpa using h2
        subst e1 e2
        exact ⟨l, l, isl_keep hw hvk, hL.ws, fun _ => rfl⟩
      · rw [List.getElem?_eq_none (by simp; omega)] at h1
        cases h1
  · obtain ⟨m, a⟩ := h.le j x h1
    exact ⟨m, a.keptIf fun g e hg => hk g hg (.inr ⟨x, .inl (List.mem_of_getElem? h1), blockOf_own e⟩)⟩
end Go.Proofs.Ytijfnacplikibab
namespace Go.Proofs.Ytijfnacplikibab
open Go.RowKit
set_option linter.unusedVariables false
set_option linter.unusedSimpArgs false
set_option maxRecDepth 20000

/-- the book, and the blocks U that it lies in; of a late one each list is a row of its own, apart from the others -/
structure Bs (late : Bool) (w : World) (k : Nat) (U : Nat → Prop) (bv raw was : Value) (ys vs us : List Value) : Prop where
  s : BkS w k late bv raw was ys vs us
  ev : ys.length % 2 = 0
  uk : U k
  ub : ∀ b, bv.ownBlock = some b → U b
  ue : ∀ b, Ent raw was ys vs us b → U b
  lt : ∀ b, U b → b < w.heap.size
  rw : ∀ b, raw.ownBlock = some b → was.ownBlock ≠ some b
  br : ∀ b, bv.ownBlock = some b → raw.ownBlock ≠ some b ∧ was.ownBlock ≠ some b
  rk : ∀ b, (raw.ownBlock = some b ∨ was.ownBlock = some b) → b ≠ k
  en : ∀ x, (x ∈ ys ∨ x ∈ vs ∨ x ∈ us) → ∀ b, x.ownBlock = some b → b ≠ k ∧ bv.ownBlock ≠ some b ∧ raw.ownBlock ≠ some b ∧ was.ownBlock ≠ some b
  own : late = true → ∀ x ∈ vs, ∃ l : List Int, w.ownsRow 0 3 1 x l.length (l.map iV) ∧ l.length ≤ 17592186044416
  dis : late = true → ∀ (i j : Nat) (x y : Value), vs[i]? = some x → vs[j]? = some y → i ≠ j → ∀ b, x.ownBlock = some b → y.ownBlock ≠ some b
  dus : late = true → ∀ x ∈ vs, ∀ y ∈ us, ∀ b, x.ownBlock = some b → y.ownBlock ≠ some b
theorem Bs.kept {late : Bool} {w w' : World} {k : Nat} {U : Nat → Prop} {bv raw was : Value} {ys vs us : List Value} (h : Bs late w k U bv raw was ys vs us) (hs : w.heap.size ≤ w'.heap.size) (hk : ∀ b, U b → w'.heap[b]? = w.heap[b]?) : Bs late w' k U bv raw was ys vs us := by
  refine ⟨h.s.kept fun b _ hb => hk b ?_, h.ev, h.uk, h.ub, h.ue, fun b hb => Nat.lt_of_lt_of_le (h.lt b hb) hs, h.rw, h.br, h.rk, h.en, fun e x hx => ?_, h.dis, h.dus⟩
  · rcases hb with rfl | e | e
    · exact h.uk
    · exact h.ub b e
    · exact h.ue b e
  · obtain ⟨l, h1, h2⟩ := h.own e x hx
    exact ⟨l, rowKept h1 fun g hg => hk g (h.ue g (.inr (.inr ⟨x, .inr (.inl hx), hg⟩))), h2⟩
theorem Bs.chg {late : Bool} {V : Nat → Prop} {w w' : World} {k : Nat} {U : Nat → Prop} {bv raw was : Value} {ys vs us : List Value} (h : Bs late w k U bv raw was ys vs us) (hc : Chg V w w') (hV : ∀ b, U b → ¬ V b) : Bs late w' k U bv raw was ys vs us :=
  h.kept hc.size fun b hb => hc.keep b (h.lt b hb) (hV b hb)
/-- what keep has turned, and where the book lies now -/
def KpU (w w' : World) (U U' : Nat → Prop) (v : Value) : Prop := Chg (fun b => U b ∨ v.ownBlock = some b) w w' ∧ ∀ b, U' b → U b ∨ v.ownBlock = some b ∨ w.heap.size ≤ b
theorem keepB {w : World} {k n : Nat} {U : Nat → Prop} {bv raw was v : Value} {ys vs us xs : List Value} (h : Bs false w k U bv raw was ys vs us) (hv : w.ownsRow 0 3 1 v n xs) (hn : n ≤ 17592186044416) (hnl : ys.length ≤ 9000000000000) (hap : ∀ b, v.ownBlock = some b → ¬ U b) :
    Calls Try.prog 20 #[.pointer (some ⟨k, 0, none⟩), v] w fun e w' => e = .returned (.tuple #[]) ∧ ∃ U' bv' gv, Bs false w' k U' bv' raw was (ys ++ [v, gv]) vs us ∧ KpU w w' U U' v := by
  refine (keepS_any h.s h.ev hv hn hnl fun b he => ?_).mono ?_
  · refine ⟨?_, ?_, fun e => hap b e (h.ue b he)⟩
    · rcases he with e | e | ⟨x, hx, e⟩
      · exact h.rk b (.inl e)
      · exact h.rk b (.inr e)
      · exact (h.en x hx b e).1
    · intro e2
      rcases he with e | e | ⟨x, hx, e⟩
      · exact (h.br b e2).1 e
      · exact (h.br b e2).2 e
      · exact (h.en x hx b e).2.1 e2
  · rintro e w' ⟨rfl, bv', gv, hS, hK⟩
    have hsz := hK.chg.size
    have hnew : ∀ b, gv.ownBlock = some b ∨ bv'.ownBlock = some b → U b ∨ v.ownBlock = some b ∨ w.heap.size ≤ b := fun b hb => by
      rcases hb with e | e
      · rcases hK.gloc b e with h | h
        · exact .inr (.inl h)
        · exact .inr (.inr h)
      · rcases hK.bloc b e with h2 | h2
        · exact .inl (h.ub b h2)
        · exact .inr (.inr h2)
    have hold : ∀ b, U b → bv'.ownBlock = some b → bv.ownBlock = some b := fun b hu e => by
      rcases hK.bloc b e with h2 | h2
      · exact h2
      · have := h.lt b hu; omega
    refine ⟨rfl, fun b => U b ∨ v.ownBlock = some b ∨ gv.ownBlock = some b ∨ bv'.ownBlock = some b, bv', gv, ⟨hS, by simp [h.ev], .inl h.uk, fun b e => .inr (.inr (.inr e)), fun b e => ?_, fun b e => ?_, h.rw, fun b e => ⟨fun e2 => ?_, fun e2 => ?_⟩, h.rk, fun x hx b e => ?_, (fun e => by cases e), (fun e => by cases e), (fun e => by cases e)⟩, ?_, ?_⟩
    · rcases e with e | e | ⟨x, hx, e⟩
      · exact .inl (h.ue b (.inl e))
      · exact .inl (h.ue b (.inr (.inl e)))
      · rcases hx with hx | hx
        · rcases List.mem_append.1 hx with hx | hx
          · exact .inl (h.ue b (.inr (.inr ⟨x, .inl hx, e⟩)))
          · simp only [List.mem_cons, List.not_mem_nil, or_false] at hx
            rcases hx with rfl | rfl
            · exact .inr (.inl e)
            · exact .inr (.inr (.inl e))
        · exact .inl (h.ue b (.inr (.inr ⟨x, .inr hx, e⟩)))
    · rcases e with e | e | e | e
      · exact Nat.lt_of_lt_of_le (h.lt b e) hsz
      · exact (hK.gb b (.inl e)).2.2
      · exact (hK.gb b (.inr e)).2.2
      · exact (hK.bk.bo.lt b e).2
    · have hu := h.ue b (.inl e2)
      exact (h.br b (hold b hu e)).1 e2
    · have hu := h.ue b (.inr (.inl e2))
      exact (h.br b (hold b hu e)).2 e2
    · have hraw : ∀ b, (v.ownBlock = some b ∨ gv.ownBlock = some b) → raw.ownBlock ≠ some b ∧ was.ownBlock ≠ some b := fun b hb => by
        have key : U b → False := fun hu => by
          rcases hb with hb | hb
          · exact hap b hb hu
          · rcases hK.gloc b hb with h2 | h2
            · exact hap b h2 hu
            · have := h.lt b hu; omega
        exact ⟨fun e => key (h.ue b (.inl e)), fun e => key (h.ue b (.inr (.inl e)))⟩
      have hmem : (x ∈ ys ∨ x ∈ vs ∨ x ∈ us) ∨ x = v ∨ x = gv := by
        rcases hx with hx | hx
        · rcases List.mem_append.1 hx with hx | hx
          · exact .inl (.inl hx)
          · simp only [List.mem_cons, List.not_mem_nil, or_false] at hx
            exact .inr hx
        · exact .inl (.inr hx)
      rcases hmem with hx | rfl | rfl
      · obtain ⟨h1, h2, h3, h4⟩ := h.en x hx b e
        have hu := h.ue b (.inr (.inr ⟨x, hx, e⟩))
        exact ⟨h1, fun e2 => h2 (hold b hu e2), h3, h4⟩
      · exact ⟨(hK.gb b (.inl e)).2.1, (hK.gb b (.inl e)).1, (hraw b (.inl e)).1, (hraw b (.inl e)).2⟩
      · exact ⟨(hK.gb b (.inr e)).2.1, (hK.gb b (.inr e)).1, (hraw b (.inr e)).1, (hraw b (.inr e)).2⟩
    · exact hK.chg.mono fun b _ hb => by
        rcases hb with e | e | e
        · exact .inl (e ▸ h.uk)
        · exact .inl (h.ub b e)
        · exact .inr e
    · rintro b (e | e | e | e)
      · exact .inl e
      · exact .inr (.inl e)
      · exact hnew b (.inl e)
      · exact hnew b (.inr e)
theorem mem_snoc {x v : Value} {l : List Value} (h : x ∈ l ++ [v]) : x ∈ l ∨ x = v := by
  rcases List.mem_append.1 h with h | h
  · exact .inl h
  · exact .inr (by simpa using h)
theorem get_snoc {x v : Value} {l : List Value} {i : Nat} (h : (l ++ [v])[i]? = some x) : (i < l.length ∧ l[i]? = some x) ∨ (i = l.length ∧ x = v) := by
  by_cases hi : i < l.length
  · rw [List.getElem?_append_left hi] at h; exact .inl ⟨hi, h⟩
  · rw [List.getElem?_append_right (by omega)] at h
    by_cases hc : i - l.length = 0
    · rw [hc] at h
      exact .inr ⟨by omega, by simpa using h.symm⟩
    · rw [List.getElem?_eq_none (by simp; omega)] at h
      cases h
theorem keepLB {w : World} {k : Nat} {U : Nat → Prop} {bv raw was v : Value} {ys vs us : List Value} {l : List Int} (h : Bs true w k U bv raw was ys vs us) (hv : w.ownsRow 0 3 1 v l.length (l.map iV)) (hw : ISl w v l) (hl : l.length ≤ 10000000) (hn : vs.length ≤ 100000000) (hap : ∀ b, v.ownBlock = some b → ¬ U b) :
    Calls Try.prog 20 #[.pointer (some ⟨k, 0, none⟩), v] w fun e w' => e = .returned (.tuple #[]) ∧ ∃ U' raw' was' u, Bs true w' k U' bv raw' was' ys (vs ++ [v]) (us ++ [u]) ∧ KpU w w' U U' v := by
  have hbk : ∀ b, bv.ownBlock = some b → b ≠ k := fun b e => by
    obtain ⟨cs, hcs⟩ := rowCells h.s.bo e
    exact neType hcs h.s.row (by decide)
  refine (keepLateS_any h.s h.rw hv hw hl hn fun b he => ?_).mono ?_
  · rcases he with e | ⟨x, hx, e⟩
    · exact ⟨hbk b e, (h.br b e).1, (h.br b e).2⟩
    · exact ⟨(h.en x hx b e).1, (h.en x hx b e).2.2.1, (h.en x hx b e).2.2.2⟩
  · rintro e w' ⟨rfl, raw', was', u, hS, hL⟩
    have hsz := hL.chg.size
    have hkl := h.lt k h.uk
    have hro : ∀ b, U b → raw'.ownBlock = some b → raw.ownBlock = some b := fun b hu e => by
      rcases hL.rl b e with h2 | h2
      · exact h2
      · have := h.lt b hu; omega
    have hwo : ∀ b, U b → was'.ownBlock = some b → was.ownBlock = some b := fun b hu e => by
      rcases hL.wl b e with h2 | h2
      · exact h2
      · have := h.lt b hu; omega
    have hvl : ∀ b, v.ownBlock = some b → b < w.heap.size := fun b e => (hv.lt b e).2
    have hun : ∀ b, u.ownBlock = some b → ¬ U b := fun b e hu => by have := hL.ul b e; have := h.lt b hu; omega
    have hent : ∀ x, (x ∈ ys ∨ x ∈ vs ∨ x ∈ us) → ∀ b, x.ownBlock = some b → U b := fun x hx b e => h.ue b (.inr (.inr ⟨x, hx, e⟩))
    refine ⟨rfl, fun b => U b ∨ v.ownBlock = some b ∨ u.ownBlock = some b ∨ raw'.ownBlock = some b ∨ was'.ownBlock = some b, raw', was', u, ⟨hS, h.ev, .inl h.uk, fun b e => .inl (h.ub b e), fun b e => ?_, fun b e => ?_, hL.ne, fun b e => ⟨fun e2 => (h.br b e).1 (hro b (h.ub b e) e2), fun e2 => (h.br b e).2 (hwo b (h.ub b e) e2)⟩, fun b e => ?_, fun x hx b e => ?_, fun _ x hx => ?_, fun _ i j x y h1 h2 hij b e e2 => ?_, fun _ x hx y hy b e e2 => ?_⟩, ?_, ?_⟩
    · rcases e with e | e | ⟨x, hx, e⟩
      · exact .inr (.inr (.inr (.inl e)))
      · exact .inr (.inr (.inr (.inr e)))
      · rcases hx with hx | hx | hx
        · exact .inl (hent x (.inl hx) b e)
        · rcases mem_snoc hx with hx | rfl
          · exact .inl (hent x (.inr (.inl hx)) b e)
          · exact .inr (.inl e)
        · rcases mem_snoc hx with hx | rfl
          · exact .inl (hent x (.inr (.inr hx)) b e)
          · exact .inr (.inr (.inl e))
    · rcases e with e | e | e | e | e
      · exact Nat.lt_of_lt_of_le (h.lt b e) hsz
      · exact Nat.lt_of_lt_of_le (hvl b e) hsz
      · exact (hL.ub b e).2.2.2
      · exact (hL.ro.lt b e).2
      · exact (hL.wo.lt b e).2
    · rcases e with e | e
      · rcases hL.rl b e with h2 | h2
        · exact h.rk b (.inl h2)
        · omega
      · rcases hL.wl b e with h2 | h2
        · exact h.rk b (.inr h2)
        · omega
    · have old : (x ∈ ys ∨ x ∈ vs ∨ x ∈ us) → b ≠ k ∧ bv.ownBlock ≠ some b ∧ raw'.ownBlock ≠ some b ∧ was'.ownBlock ≠ some b := fun hx => by
        obtain ⟨h1, h2, h3, h4⟩ := h.en x hx b e
        have hu := hent x hx b e
        exact ⟨h1, h2, fun e2 => h3 (hro b hu e2), fun e2 => h4 (hwo b hu e2)⟩
      have newV : v.ownBlock = some b → b ≠ k ∧ bv.ownBlock ≠ some b ∧ raw'.ownBlock ≠ some b ∧ was'.ownBlock ≠ some b := fun ev => by
        have hnu := hap b ev
        have hlt := hvl b ev
        refine ⟨fun e2 => hnu (e2 ▸ h.uk), fun e2 => hnu (h.ub b e2), fun e2 => ?_, fun e2 => ?_⟩
        · rcases hL.rl b e2 with h2 | h2
          · exact hnu (h.ue b (.inl h2))
          · omega
        · rcases hL.wl b e2 with h2 | h2
          · exact hnu (h.ue b (.inr (.inl h2)))
          · omega
      rcases hx with hx | hx | hx
      · exact old (.inl hx)
      · rcases mem_snoc hx with hx | rfl
        · exact old (.inr (.inl hx))
        · exact newV e
      · rcases mem_snoc hx with hx | rfl
        · exact old (.inr (.inr hx))
        · obtain ⟨h1, h2, h3, h4⟩ := hL.ub b e
          exact ⟨h3, fun e2 => hun b e (h.ub b e2), h1, h2⟩
    · rcases mem_snoc hx with hx | rfl
      · obtain ⟨l', h1, h2⟩ := h.own rfl x hx
        refine ⟨l', rowKept h1 fun g hg => hL.chg.keep g (h1.lt g hg).2 ?_, h2⟩
        obtain ⟨n1, n2, n3, n4⟩ := h.en x (.inr (.inl hx)) g hg
        rintro (e | e | e)
        · exact n1 e
        · exact n3 e
        · exact n4 e
      · refine ⟨l, rowKept hv fun g hg => hL.chg.keep g (hvl g hg) ?_, by omega⟩
        have hnu := hap g hg
        rintro (e | e | e)
        · exact hnu (e ▸ h.uk)
        · exact hnu (h.ue g (.inl e))
        · exact hnu (h.ue g (.inr (.inl e)))
    · rcases get_snoc h1 with ⟨i1, h3⟩ | ⟨i1, h3⟩
      · rcases get_snoc h2 with ⟨i2, h4⟩ | ⟨i2, h4⟩
        · exact h.dis rfl i j x y h3 h4 hij b e e2
        · exact hap b (h4 ▸ e2) (hent x (.inr (.inl (List.mem_of_getElem? h3))) b e)
      · rcases get_snoc h2 with ⟨i2, h4⟩ | ⟨i2, h4⟩
        · exact hap b (h3 ▸ e) (hent y (.inr (.inl (List.mem_of_getElem? h4))) b e2)
        · omega
    · rcases mem_snoc hx with hx | rfl
      · rcases mem_snoc hy with hy | rfl
        · exact h.dus rfl x hx y hy b e e2
        · exact hun b e2 (hent x (.inr (.inl hx)) b e)
      · rcases mem_snoc hy with hy | rfl
        · exact hap b e (hent y (.inr (.inr hy)) b e2)
        · have := hvl b e; have := hL.ul b e2; omega
    · exact hL.chg.mono fun b _ hb => by
        rcases hb with e | e | e
        · exact .inl (e ▸ h.uk)
        · exact .inl (h.ue b (.inl e))
        · exact .inl (h.ue b (.inr (.inl e)))
    · rintro b (e | e | e | e | e)
      · exact .inl e
      · exact .inr (.inl e)
      · exact .inr (.inr (hL.ul b e))
      · rcases hL.rl b e with h2 | h2
        · exact .inl (h.ue b (.inl h2))
        · exact .inr (.inr h2)
      · rcases hL.wl b e with h2 | h2
        · exact .inl (h.ue b (.inr (.inl h2)))
        · exact .inr (.inr h2)
end Go.Proofs.Ytijfnacplikibab
namespace Go.Proofs.Ytijfnacplikibab
open Go.RowKit
set_option linter.unusedVariables false
set_option linter.unusedSimpArgs false
set_option maxRecDepth 20000

/-- the entries' blocks but for the list i of Raw -/
def Ent2 (i : Nat) (raw was : Value) (ys vs us : List Value) (b : Nat) : Prop := raw.ownBlock = some b ∨ was.ownBlock = some b ∨ (∃ x, (x ∈ ys ∨ x ∈ us) ∧ x.ownBlock = some b) ∨ ∃ (j : Nat) (x : Value), j ≠ i ∧ vs[j]? = some x ∧ x.ownBlock = some b
/-- keep of a list that the book keeps raw -/
theorem keepS2_any {w : World} {k n i : Nat} {bv raw was v : Value} {ys vs us xs : List Value} (h : BkS w k false bv raw was ys vs us) (hev : ys.length % 2 = 0) (hi : vs[i]? = some v) (hv : w.ownsRow 0 3 1 v n xs) (hn : n ≤ 17592186044416) (hnl : ys.length ≤ 9000000000000)
    (hap : ∀ b, Ent2 i raw was ys vs us b → b ≠ k ∧ bv.ownBlock ≠ some b ∧ v.ownBlock ≠ some b) :
    Calls Try.prog 20 #[.pointer (some ⟨k, 0, none⟩), v] w fun e w' => e = .returned (.tuple #[]) ∧ ∃ bv' gv, BkS w' k false bv' raw was (ys ++ [v, gv]) vs us ∧ Kp w w' k ys.length n bv v raw was ys bv' gv := by
  refine (keep_any ⟨h.row, h.bo⟩ hv hn hnl).mono ?_
  rintro e w' ⟨rfl, bv', gv, hK⟩
  have hk : ∀ b, b < w.heap.size → Ent2 i raw was ys vs us b → w'.heap[b]? = w.heap[b]? := fun b hb he => hK.chg.keep b hb (by
    obtain ⟨h1, h2, h3⟩ := hap b he
    rintro (e | e | e)
    · exact h1 e
    · exact h2 e
    · exact h3 e)
  have hll : (ys ++ [v, gv]).length = ys.length + 2 := by simp
  refine ⟨rfl, bv', gv, ⟨hK.bk.row, by rw [hll]; exact hK.bk.bo, rowKept h.ro fun g e => hk g (h.ro.lt g e).2 (.inl e), rowKept h.wo fun g e => hk g (h.wo.lt g e).2 (.inr (.inl e)), h.len, fun j u x h1 h2 => ?_, fun j x h1 => ?_⟩, hK⟩
  · obtain ⟨l1, l2, a, b, c⟩ := h.re j u x h1 h2
    have hb := b.keptIf (w' := w') fun g e hg => hk g hg (.inr (.inr (.inl ⟨u, .inr (List.mem_of_getElem? h2), blockOf_own e⟩)))
    by_cases hj : j = i
    · subst hj
      rw [hi] at h1
      obtain rfl := Option.some.inj h1
      exact ⟨_, l2, hK.one, hb, fun e => by cases e⟩
    · exact ⟨l1, l2, a.keptIf fun g e hg => hk g hg (.inr (.inr (.inr ⟨j, x, hj, h1, blockOf_own e⟩))), hb, c⟩
  · by_cases hj : j < ys.length
    · rw [List.getElem?_append_left hj] at h1
      obtain ⟨m, a⟩ := h.le j x h1
      exact ⟨m, a.keptIf fun g e hg => hk g hg (.inr (.inr (.inl ⟨x, .inl (List.mem_of_getElem? h1), blockOf_own e⟩)))⟩
    · rw [List.getElem?_append_right (by omega)] at h1
      have hc : j - ys.length = 0 ∨ j - ys.length = 1 ∨ 2 ≤ j - ys.length := by omega
      rcases hc with hc | hc | hc
      · rw [hc] at h1
        have e1 : v = x := by simpa using h1
        subst e1
        have e2 : j - j % 2 = ys.length := by omega
        exact ⟨n, by rw [e2]; exact hK.one⟩
      · rw [hc] at h1
        have e1 : gv = x := by simpa using h1
        subst e1
        have e2 : j - j % 2 = ys.length := by omega
        exact ⟨n + 80, by rw [e2]; exact hK.two⟩
      · rw [List.getElem?_eq_none (by simpa using hc)] at h1
        cases h1
/-- the book of either mode, in the blocks U; c lists were kept at most -/
def BkB (late : Bool) (w : World) (k : Nat) (U : Nat → Prop) (c : Nat) : Prop := ∃ bv raw was ys vs us, Bs late w k U bv raw was ys vs us ∧ ys.length + 2 * vs.length ≤ 2 * c ∧ (late = true → ys = [])
theorem BkB.lt {late : Bool} {w : World} {k c : Nat} {U : Nat → Prop} (h : BkB late w k U c) : ∀ b, U b → b < w.heap.size := by
  obtain ⟨_, _, _, _, _, _, h, _⟩ := h
  exact h.lt
theorem BkB.uk {late : Bool} {w : World} {k c : Nat} {U : Nat → Prop} (h : BkB late w k U c) : U k := by
  obtain ⟨_, _, _, _, _, _, h, _⟩ := h
  exact h.uk
theorem BkB.chg {late : Bool} {V : Nat → Prop} {w w' : World} {k c : Nat} {U : Nat → Prop} (h : BkB late w k U c) (hc : Chg V w w') (hV : ∀ b, U b → ¬ V b) : BkB late w' k U c := by
  obtain ⟨bv, raw, was, ys, vs, us, h, hl⟩ := h
  exact ⟨bv, raw, was, ys, vs, us, h.chg hc hV, hl⟩
theorem BkB.below {late : Bool} {w w' : World} {k c : Nat} {U : Nat → Prop} (h : BkB late w k U c) (hc : Below w.heap.size w w') : BkB late w' k U c := h.chg (V := fun _ => False) (Chg.ofBelow hc) fun _ _ e => e
theorem BkB.more {late : Bool} {w : World} {k c d : Nat} {U : Nat → Prop} (h : BkB late w k U c) (hd : c ≤ d) : BkB late w k U d := by
  obtain ⟨bv, raw, was, ys, vs, us, h, hl⟩ := h
  exact ⟨bv, raw, was, ys, vs, us, h, by omega, hl.2⟩
/-- what keep of either mode leaves -/
def KPB (late : Bool) (k c : Nat) (U : Nat → Prop) (x : World) (v : Value) (w' : World) : Prop := ∃ U', BkB late w' k U' (c + 1) ∧ KpU x w' U U' v
theorem keepAny {late : Bool} {w : World} {k c : Nat} {U : Nat → Prop} {v : Value} {l : List Int} (h : BkB late w k U c) (hv : w.ownsRow 0 3 1 v l.length (l.map iV)) (hw : ISl w v l) (hl : l.length ≤ 10000000) (hc : c ≤ 100000000) (hap : ∀ b, v.ownBlock = some b → ¬ U b) :
    Calls Try.prog 20 #[.pointer (some ⟨k, 0, none⟩), v] w fun e w' => e = .returned (.tuple #[]) ∧ KPB late k c U w v w' := by
  obtain ⟨bv, raw, was, ys, vs, us, h, hh, hy⟩ := h
  cases late with
  | false =>
    refine (keepB h hv (by omega) (by omega) hap).mono ?_
    rintro e w' ⟨rfl, U', bv', gv, hB, hK⟩
    exact ⟨rfl, U', ⟨_, _, _, _, _, _, hB, by simp; omega, fun e => by cases e⟩, hK⟩
  | true =>
    refine (keepLB h hv hw hl (by omega) hap).mono ?_
    rintro e w' ⟨rfl, U', raw', was', u, hB, hK⟩
    exact ⟨rfl, U', ⟨_, _, _, _, _, _, hB, by simp; omega, hy⟩, hK⟩
end Go.Proofs.Ytijfnacplikibab
namespace Go.Proofs.Ytijfnacplikibab
open Go.RowKit
set_option linter.unusedVariables false
set_option linter.unusedSimpArgs false
set_option maxRecDepth 20000

/-- half way through settled: the first i lists are written full -/
structure SvD (w0 wr : World) (N k : Nat) (bv raw was : Value) (ys vs us : List Value) (i : Nat) : Prop where
  s : BkS wr k false bv raw was ys vs us
  len : ys.length = 2 * i
  lt : ∀ b, Ent raw was ys vs us b → b < wr.heap.size
  d1 : ∀ b, Ent raw was ys vs us b → b ≠ k ∧ bv.ownBlock ≠ some b
  own : ∀ (j : Nat) (x : Value), i ≤ j → vs[j]? = some x → ∃ l : List Int, wr.ownsRow 0 3 1 x l.length (l.map iV) ∧ l.length ≤ 17592186044416
  d2 : ∀ (j : Nat) (x : Value), i ≤ j → vs[j]? = some x → ∀ b, x.ownBlock = some b → raw.ownBlock ≠ some b ∧ was.ownBlock ≠ some b ∧ (∀ y, (y ∈ ys ∨ y ∈ us) → y.ownBlock ≠ some b) ∧ ∀ (j' : Nat) (y : Value), j' ≠ j → vs[j']? = some y → y.ownBlock ≠ some b
  be : Below N w0 wr
  nb : ∀ b, (b = k ∨ bv.ownBlock = some b ∨ Ent raw was ys vs us b) → N ≤ b
def Sv (w0 wr : World) (N k : Nat) (raw was : Value) (vs us : List Value) (i : Nat) : Prop := ∃ bv ys, SvD w0 wr N k bv raw was ys vs us i
theorem Sv.step {w0 wr : World} {N k i : Nat} {raw was v : Value} {vs us : List Value} (h : Sv w0 wr N k raw was vs us i) (hv : vs[i]? = some v) (hi : i ≤ 4000000000000) :
    Calls Try.prog 20 #[.pointer (some ⟨k, 0, none⟩), v] wr fun e w' => e = .returned (.tuple #[]) ∧ Sv w0 w' N k raw was vs us (i + 1) := by
  obtain ⟨bv, ys, h⟩ := h
  obtain ⟨l, hr, hl⟩ := h.own i v (Nat.le_refl _) hv
  have hlen := h.len
  have hE : ∀ b, Ent2 i raw was ys vs us b → Ent raw was ys vs us b := by
    rintro b (e | e | ⟨x, hx, e⟩ | ⟨j, x, _, hx, e⟩)
    · exact .inl e
    · exact .inr (.inl e)
    · exact .inr (.inr ⟨x, hx.imp id .inr, e⟩)
    · exact .inr (.inr ⟨x, .inr (.inl (List.mem_of_getElem? hx)), e⟩)
  refine (keepS2_any h.s (by omega) hv hr hl (by omega) fun b he => ?_).mono ?_
  · refine ⟨(h.d1 b (hE b he)).1, (h.d1 b (hE b he)).2, fun e => ?_⟩
    obtain ⟨q1, q2, q3, q4⟩ := h.d2 i v (Nat.le_refl _) hv b e
    rcases he with e | e | ⟨x, hx, e⟩ | ⟨j, x, hj, hx, e⟩
    · exact q1 e
    · exact q2 e
    · exact q3 x hx e
    · exact q4 j x hj hx e
  · rintro e w' ⟨rfl, bv', gv, hS, hK⟩
    have hsz := hK.chg.size
    have hvE : ∀ b, v.ownBlock = some b → Ent raw was ys vs us b := fun b e => .inr (.inr ⟨v, .inr (.inl (List.mem_of_getElem? hv)), e⟩)
    have hsplit : ∀ b, Ent raw was (ys ++ [v, gv]) vs us b → Ent raw was ys vs us b ∨ v.ownBlock = some b ∨ gv.ownBlock = some b := by
      rintro b (e | e | ⟨x, hx, e⟩)
      · exact .inl (.inl e)
      · exact .inl (.inr (.inl e))
      · rcases hx with hx | hx
        · rcases List.mem_append.1 hx with hx | hx
          · exact .inl (.inr (.inr ⟨x, .inl hx, e⟩))
          · simp only [List.mem_cons, List.not_mem_nil, or_false] at hx
            rcases hx with rfl | rfl
            · exact .inr (.inl e)
            · exact .inr (.inr e)
        · exact .inl (.inr (.inr ⟨x, .inr hx, e⟩))
    refine ⟨rfl, bv', ys ++ [v, gv], ⟨hS, by simp [hlen]; omega, fun b hb => ?_, fun b hb => ?_, fun j x hj hx => ?_, fun j x hj hx b e => ?_, ?_, fun b hb => ?_⟩⟩
    · rcases hsplit b hb with e | e | e
      · exact Nat.lt_of_lt_of_le (h.lt b e) hsz
      · exact (hK.gb b (.inl e)).2.2
      · exact (hK.gb b (.inr e)).2.2
    · rcases hsplit b hb with e | e | e
      · refine ⟨(h.d1 b e).1, fun e2 => ?_⟩
        rcases hK.bloc b e2 with e3 | e3
        · exact (h.d1 b e).2 e3
        · have := h.lt b e; omega
      · exact ⟨(hK.gb b (.inl e)).2.1, (hK.gb b (.inl e)).1⟩
      · exact ⟨(hK.gb b (.inr e)).2.1, (hK.gb b (.inr e)).1⟩
    · obtain ⟨l', h1, h2⟩ := h.own j x (by omega) hx
      refine ⟨l', rowKept h1 fun g hg => hK.chg.keep g (h1.lt g hg).2 ?_, h2⟩
      have hx' : Ent raw was ys vs us g := .inr (.inr ⟨x, .inr (.inl (List.mem_of_getElem? hx)), hg⟩)
      rintro (e | e | e)
      · exact (h.d1 g hx').1 e
      · exact (h.d1 g hx').2 e
      · exact (h.d2 j x (by omega) hx g hg).2.2.2 i v (by omega) hv e
    · obtain ⟨q1, q2, q3, q4⟩ := h.d2 j x (by omega) hx b e
      have hx' : Ent raw was ys vs us b := .inr (.inr ⟨x, .inr (.inl (List.mem_of_getElem? hx)), e⟩)
      refine ⟨q1, q2, fun y hy e2 => ?_, q4⟩
      rcases hy with hy | hy
      · rcases List.mem_append.1 hy with hy | hy
        · exact q3 y (.inl hy) e2
        · simp only [List.mem_cons, List.not_mem_nil, or_false] at hy
          rcases hy with rfl | rfl
          · exact q4 i _ (by omega) hv e2
          · rcases hK.gloc b e2 with e3 | e3
            · exact q4 i _ (by omega) hv e3
            · have := h.lt b hx'; omega
      · exact q3 y (.inr hy) e2
    · refine h.be.trans (hK.chg.below (Nat.le_trans ?_ (Nat.le_of_lt (Array.getElem?_eq_some_iff.1 h.s.row).1)) ?_)
      · exact h.nb k (.inl rfl)
      · rintro b (e | e | e)
        · exact h.nb b (.inl e)
        · exact h.nb b (.inr (.inl e))
        · exact h.nb b (.inr (.inr (hvE b e)))
    · have hk0 : N ≤ wr.heap.size := Nat.le_trans (h.nb k (.inl rfl)) (Nat.le_of_lt (Array.getElem?_eq_some_iff.1 h.s.row).1)
      rcases hb with e | e | e
      · exact h.nb b (.inl e)
      · rcases hK.bloc b e with e3 | e3
        · exact h.nb b (.inr (.inl e3))
        · omega
      · rcases hsplit b e with e | e | e
        · exact h.nb b (.inr (.inr e))
        · exact h.nb b (.inr (.inr (hvE b e)))
        · rcases hK.gloc b e with e3 | e3
          · exact h.nb b (.inr (.inr (hvE b e3)))
          · omega
theorem Sv.start {w w1 : World} {N k : Nat} {U : Nat → Prop} {bv raw was : Value} {vs us : List Value} (h : Bs true w k U bv raw was [] vs us) (hN : ∀ b, U b → N ≤ b) (hq : Qt w w1) : Sv w (w1.setCell ⟨k, 1, none⟩ (.bool false)) N k raw was vs us 0 := by
  have hk : ∀ b, b ≠ k → (w1.setCell ⟨k, 1, none⟩ (.bool false)).heap[b]? = w.heap[b]? := fun b hb => by
    rw [Go.heap_setCell_other _ _ _ _ (by exact hb), hq.1]
  have hsz : (w1.setCell ⟨k, 1, none⟩ (.bool false)).heap.size = w.heap.size := by rw [World.size_setCell, hq.1]
  have hrow : (w1.setCell ⟨k, 1, none⟩ (.bool false)).heap[k]? = some (.cells #[bv, .bool false, raw, was] 31 (0, 0)) := by
    have h1 : w1.heap[k]? = some (.cells #[bv, .bool true, raw, was] 31 (0, 0)) := by rw [hq.1]; exact h.s.row
    exact Go.heap_setCell_same w1 _ 1 _ 31 _ h1
  have hEU : ∀ b, Ent raw was [] vs us b → U b := h.ue
  have hd1 : ∀ b, Ent raw was [] vs us b → b ≠ k ∧ bv.ownBlock ≠ some b := by
    rintro b (e | e | ⟨x, hx, e⟩)
    · exact ⟨h.rk b (.inl e), fun e2 => (h.br b e2).1 e⟩
    · exact ⟨h.rk b (.inr e), fun e2 => (h.br b e2).2 e⟩
    · exact ⟨(h.en x hx b e).1, (h.en x hx b e).2.1⟩
  have hbk : ∀ b, bv.ownBlock = some b → b ≠ k := fun b e => by
    obtain ⟨cs, hcs⟩ := rowCells h.s.bo e
    exact neType hcs h.s.row (by decide)
  refine ⟨bv, [], ⟨⟨hrow, rowKept h.s.bo fun g e => hk g (hbk g e), rowKept h.s.ro fun g e => hk g (h.rk g (.inl e)), rowKept h.s.wo fun g e => hk g (h.rk g (.inr e)), h.s.len, fun j u v h1 h2 => ?_, fun j v h1 => by simp at h1⟩, rfl, fun b e => by rw [hsz]; exact h.lt b (hEU b e), hd1, fun j x _ hx => ?_, fun j x _ hx b e => ?_, ?_, ?_⟩⟩
  · obtain ⟨l1, l2, a, b, c⟩ := h.s.re j u v h1 h2
    exact ⟨l1, l2, a.keptIf fun g e hg => hk g (hd1 g (.inr (.inr ⟨v, .inr (.inl (List.mem_of_getElem? h1)), blockOf_own e⟩))).1, b.keptIf fun g e hg => hk g (hd1 g (.inr (.inr ⟨u, .inr (.inr (List.mem_of_getElem? h2)), blockOf_own e⟩))).1, fun e => by cases e⟩
  · obtain ⟨l, h1, h2⟩ := h.own rfl x (List.mem_of_getElem? hx)
    exact ⟨l, rowKept h1 fun g hg => hk g (hd1 g (.inr (.inr ⟨x, .inr (.inl (List.mem_of_getElem? hx)), hg⟩))).1, h2⟩
  · obtain ⟨q1, q2, q3, q4⟩ := h.en x (.inr (.inl (List.mem_of_getElem? hx))) b e
    refine ⟨q3, q4, fun y hy => ?_, fun j' y hj hy => h.dis rfl j j' x y hx hy (fun e => hj e.symm) b e⟩
    rcases hy with hy | hy
    · cases hy
    · exact h.dus rfl x (List.mem_of_getElem? hx) y hy b e
  · exact (hq.2.mono (Nat.le_of_lt (Nat.lt_of_le_of_lt (hN k h.uk) (h.lt k h.uk)))).setCell (p := ⟨k, 1, none⟩) (hN k h.uk) _
  · rintro b (e | e | e)
    · exact hN b (e ▸ h.uk)
    · exact hN b (h.ub b e)
    · exact hN b (hEU b e)
theorem Sv.kept {w0 wr : World} {N k i : Nat} {raw was : Value} {vs us : List Value} (h : Sv w0 wr N k raw was vs us i) (hi : i ≤ 4000000000000) :
    Calls Try.prog 11 #[.pointer (some ⟨k, 0, none⟩)] wr fun e w' => e = .returned (.bool true) ∧ Below N w0 w' := by
  obtain ⟨bv, ys, h⟩ := h
  have hlen := h.len
  have hk0 : N ≤ wr.heap.size := Nat.le_trans (h.nb k (.inl rfl)) (Nat.le_of_lt (Array.getElem?_eq_some_iff.1 h.s.row).1)
  exact (kept_any h.s (by omega)).mono fun e w' hp => ⟨hp.1, h.be.trans (hp.2.2.mono hk0)⟩
theorem Sv.c {w0 wr : World} {N k i : Nat} {raw was : Value} {vs us : List Value} (h : Sv w0 wr N k raw was vs us i) : wr.cell? ⟨k, 2, none⟩ = some raw := by
  obtain ⟨bv, ys, h⟩ := h
  exact h.s.c 2
theorem Sv.cv {w0 wr : World} {N k i j : Nat} {was v : Value} {g : Option Addr} {len cap : Nat} {vs us : List Value} (h : Sv w0 wr N k (.slice g len cap) was vs us i) (hv : vs[j]? = some v) : ∃ b, g = some ⟨b, 0, none⟩ ∧ wr.cell? ⟨b, j, none⟩ = some v := by
  obtain ⟨bv, ys, h⟩ := h
  obtain ⟨b, cp, e, hc⟩ := rowCellL h.s.ro hv
  simp only [Value.slice.injEq] at e
  exact ⟨b, e.1, hc⟩
set_option maxHeartbeats 1000000 in
theorem settled_any {w : World} {k N : Nat} {U : Nat → Prop} {bv raw was : Value} {vs us : List Value} (h : Bs true w k U bv raw was [] vs us) (hN : ∀ b, U b → N ≤ b) (hl : vs.length ≤ 4000000000000) :
    Calls Try.prog 12 #[.pointer (some ⟨k, 0, none⟩)] w fun e w' => e = .returned (.bool true) ∧ Below N w w' := by
  obtain ⟨ar, cr, er, hr1, hr2⟩ := rowForm h.s.ro
  subst er
  unfold maxLen at hr2
  have HK := hide (kept_any h.s (by simp))
  have HST : Hid (∀ w1, Qt w w1 → Sv w (w1.setCell ⟨k, 1, none⟩ (.bool false)) N k (.slice ar vs.length cr) was vs us 0) := hide fun w1 hq => Sv.start h hN hq
  have HROW : Hid (∀ w1, Qt w w1 → w1.cell? ⟨k, 1, none⟩ = some (.bool true) ∧ w1.frozen? ⟨k, 1, none⟩ = false) := hide fun w1 hq => by
    have h1 : w1.heap[k]? = some (.cells #[bv, .bool true, .slice ar vs.length cr, was] 31 (0, 0)) := by rw [hq.1]; exact h.s.row
    exact ⟨by rw [cell_of_row _ _ _ _ _ _ h1]; rfl, frozen_of_row _ _ _ _ 31 h1⟩
  have HVG : Hid (∀ j, j < vs.length → ∃ v, vs[j]? = some v) := hide fun j hj => ⟨_, List.getElem?_eq_getElem hj⟩
  generalize hnv : vs.length = nv at *
  clear hnv h
  go_enter Try.func12, Try.ntmps12
  go_wp2_with (first
    | (go_at_call 11; refine HK.out.mono ?_; rintro e w1 ⟨rfl, hq⟩; obtain ⟨t1, f1⟩ := HROW.out _ hq; have HS0 := hide (HST.out _ hq); have t2 := HS0.out.c; clear hq))
  go_loopw [4] (fun x wr => ∃ i : Nat, i ≤ nv ∧ x = .int .i64 (i : Int) ∧ Sv w wr N k (.slice ar nv cr) was vs us i) (fun x _ => nv - (intOf x).toNat)
  case atStart => exact ⟨0, Nat.zero_le _, rfl, HS0.out⟩
  case round =>
    clear HS0 t2 HK HST HROW t1 f1
    obtain ⟨i, hin, rfl, hs⟩ := hrel
    have HS := hide hs
    clear hs
    have t2 := HS.out.c
    by_cases hlt : i < nv
    · obtain ⟨v, hv⟩ := HVG.out i hlt
      obtain ⟨g, eg, hc⟩ := HS.out.cv hv
      subst eg
      have HK := hide (HS.out.step hv (by omega))
      clear hv
      go_wp2_with (first
        | (go_at_call 20; refine HK.out.mono ?_; rintro e w2 ⟨rfl, h2⟩; have HS2 := hide h2; clear h2))
      go_roundw
      case rel => exact ⟨i + 1, by omega, by go_num, HS2.out⟩
      case measure => simp [intOf]; omega
    · have HKE := hide (HS.out.kept (by omega))
      go_wp2_with (first
        | (go_at_call 11; refine HKE.out.mono ?_; rintro e w2 ⟨rfl, h2⟩; have HB2 := hide h2; clear h2))
      go_ret
      exact ⟨rfl, HB2.out⟩
end Go.Proofs.Ytijfnacplikibab
namespace Go.Proofs.Ytijfnacplikibab
open Go.RowKit
set_option linter.unusedVariables false
set_option linter.unusedSimpArgs false
set_option maxRecDepth 20000

/-- what one call of a script leaves: lists, waiting -/
def cal (n : Nat) (L : LL) (ws wt kind e md o : Int) : LL × Int :=
  if kind = 1 then ((acq n L ws wt e o md).L, (acq n L ws wt e o md).wt) else if kind = 2 then ((rls n L wt e o).L, (rls n L wt e o).wt)
  else if kind = 3 then ((drp n L wt o n).L, (drp n L wt o n).wt) else (L, wt)
theorem cal_wf {n : Nat} {L : LL} {ws wt : Int} {B : Nat} (h : WF n L ws wt B) (kind e md o : Int) : WF n (cal n L ws wt kind e md o).1 ws (cal n L ws wt kind e md o).2 (B + 1) := by
  unfold cal
  split
  · exact acq_wf h e o md
  · split
    · exact (rls_wf h e o).mono (Nat.le_succ _)
    · split
      · exact (drp_wf h o n).mono (Nat.le_succ _)
      · exact h.mono (Nat.le_succ _)
theorem cal_ok {n : Nat} {L : LL} (h : Ok n L) (ws wt kind e md o : Int) : Ok n (cal n L ws wt kind e md o).1 := by
  unfold cal
  split
  · exact ok_acq h ws wt e o md
  · split
    · exact ok_rls h wt e o
    · split
      · exact ok_drp h wt o n
      · exact h
def opRow (kind : Int) (snd : Bool) (e md o : Int) : Array Value := #[.int .i64 kind, .bool snd, .int .i64 e, .int .i64 md, .int .i64 o]
end Go.Proofs.Ytijfnacplikibab
namespace Go.Proofs.Ytijfnacplikibab
open Go.RowKit
set_option linter.unusedVariables false
set_option linter.unusedSimpArgs false
set_option maxRecDepth 20000

def nilVV : Nat → Value := fun _ => .slice none 0 0
def nilLL : LL := fun _ => []
theorem wf_nil (n : Nat) {ws : Int} (h : 0 ≤ ws ∧ ws ≤ 512) : WF n nilLL ws 0 0 := ⟨h, by
    have : ∀ k, rowsum nilLL k = 0 := fun k => by
      induction k with
      | zero => rfl
      | succ k ih => rw [rowsum, ih]; rfl
    rw [this]; rfl, h.1, fun e => by simp [nilLL]⟩
theorem ok_nil (n : Nat) : Ok n nilLL := fun e _ => ok1_nil
end Go.Proofs.Ytijfnacplikibab
namespace Go.Proofs.Ytijfnacplikibab
open Go.RowKit
set_option linter.unusedVariables false
set_option linter.unusedSimpArgs false
set_option maxRecDepth 20000

/-- a table in a law's run that began at w -/
structure AS (w x : World) (p b n : Nat) (V : Nat → Value) (L : LL) (ws wt : Int) (B : Nat) : Prop where
  t : TRep x p b 0 n V L ws wt
  wf : WF n L ws wt B
  ok : Ok n L
  bel : Below w.heap.size w x
  lo : ∀ g, TU p b n V g → w.heap.size ≤ g
section
variable {w x y : World} {p b n : Nat} {V V' : Nat → Value} {L L' : LL} {ws wt wt' : Int} {B B' : Nat}
theorem AS.step (h : AS w x p b n V L ws wt B) (ht : TRep y p b 0 n V' L' ws wt') (hw : WF n L' ws wt' B') (ho : Ok n L') {R : Nat → Prop} (htr : Tr R x y (TU p b n V) (TU p b n V')) (hR : ∀ g, R g → w.heap.size ≤ g) : AS w y p b n V' L' ws wt' B' := by
  have hs := h.bel.size
  refine ⟨ht, hw, ho, h.bel.trans (htr.chg.below hs fun g hg => hg.elim (h.lo g) (hR g)), fun g hg => ?_⟩
  rcases htr.loc g hg with h1 | h1
  · exact h.lo g h1
  · omega
theorem AS.asked (h : AS w x p b n V L ws wt B) (ht : TRep y p b 0 n V L ws wt) (hc : Chg (· = p) x y) : AS w y p b n V L ws wt B :=
  h.step ht h.wf h.ok (R := fun _ => False) ⟨hc.mono fun g _ e => .inl (.inl e), fun g hg => .inl hg⟩ fun g h => h.elim
theorem AS.below (h : AS w x p b n V L ws wt B) (hb : Below x.heap.size x y) : AS w y p b n V L ws wt B := h.step (h.t.below hb) h.wf h.ok (R := fun _ => False) (Tr.ofBelow hb) fun g h => h.elim
theorem AS.drew (h : AS w x p b n V L ws wt B) : AS w x.drew p b n V L ws wt B := h.below ⟨rfl, rfl, rfl, Nat.le_refl _, fun _ _ => rfl⟩
theorem AS.mono (h : AS w x p b n V L ws wt B) (hB : B ≤ B') : AS w x p b n V L ws wt B' := ⟨h.t, h.wf.mono hB, h.ok, h.bel, h.lo⟩
/-- a list of numbers beside the table stays -/
theorem AS.irow (h : AS w x p b n V L ws wt B) {v : Value} {l : List Int} (hv : IRow x v l) (htr : Tr (fun _ => False) x y (TU p b n V) (TU p b n V')) : IRow y v l := h.t.irow hv htr
theorem AS.irowA (h : AS w x p b n V L ws wt B) {v : Value} {l : List Int} (hv : IRow x v l) (hc : Chg (· = p) x y) : IRow y v l := hv.kept fun g hg => hc.keep g (hv.lt hg) fun e => by
  obtain ⟨cs, hcs⟩ := rowCells hv hg
  exact neType hcs h.t.row (by decide) e
end
theorem as_new {w x : World} {p b n : Nat} {ws : Int} (h1 : TRep x p b 0 n nilVV nilLL ws 0) (h2 : Below w.heap.size w x) (h3 : w.heap.size ≤ p) (h4 : w.heap.size ≤ b) (hws : 0 ≤ ws ∧ ws ≤ 512) : AS w x p b n nilVV nilLL ws 0 0 :=
  ⟨h1, wf_nil n hws, ok_nil n, h2, fun g hg => by
    rcases hg with e | e | ⟨k, hk, e⟩
    · omega
    · omega
    · simp [nilVV, Value.ownBlock] at e⟩
/-- one who holds gives back: he is the first -/
theorem rls_first {n : Nat} {L : LL} {wt : Int} {e : Nat} {c : Int × Int} {hs : List (Int × Int)} (he : e < n) (hh : L (e * 2) = c :: hs) :
    (rls n L wt e c.1).err = 0 ∧ (rls n L wt e c.1).inn = ((L (e * 2 + 1)).take (lin hs (L (e * 2 + 1)))).map Prod.fst ∧ (rls n L wt e c.1).L (e * 2) = hs ++ (L (e * 2 + 1)).take (lin hs (L (e * 2 + 1))) ∧ (rls n L wt e c.1).L (e * 2 + 1) = (L (e * 2 + 1)).drop (lin hs (L (e * 2 + 1))) := by
  have hne : ¬ ¬ (0 ≤ (e : Int) ∧ (e : Int) < (n : Int)) := fun hc => hc ⟨by omega, by omega⟩
  have hp : pl (c :: hs) c.1 = 0 := by simp [pl, List.findIdx_cons]
  have hha : has (L (e * 2)) c.1 = true := by rw [hh, has_iff, hp]; simp
  have hor : (has (L (e * 2)) c.1 || has (L (e * 2 + 1)) c.1) = true := by rw [hha]; rfl
  have hl : leaveL L e c.1 = upd L (e * 2) hs := by
    unfold leaveL
    rw [if_pos hha, hh]
    unfold rem
    rw [hp]
    rfl
  have hl0 : leaveL L e c.1 (e * 2) = hs := by rw [hl, upd_same]
  have hl1 : leaveL L e c.1 (e * 2 + 1) = L (e * 2 + 1) := by rw [hl, upd_other _ _ _ (by omega)]
  unfold rls
  rw [if_neg hne]
  simp only [Int.toNat_natCast]
  rw [if_pos hor]
  refine ⟨rfl, ?_, ?_, ?_⟩
  · show relIn L e c.1 = _
    unfold relIn relK
    rw [hl0, hl1]
  · show relL L e c.1 (e * 2) = _
    unfold relL relK
    rw [upd_other _ _ _ (by omega), upd_same, hl0, hl1]
  · show relL L e c.1 (e * 2 + 1) = _
    unfold relL relK
    rw [upd_same, hl0, hl1]
theorem Ok1.ne {hs rw : List (Int × Int)} (h : Ok1 hs rw) (hr : rw ≠ []) : hs ≠ [] := by
  intro e
  cases hrw : rw with
  | nil => exact hr hrw
  | cons c r =>
    have := h.go c r hrw
    rw [e] at this
    simp [goesB] at this
/-- behind a call for an Exclusive lock somebody holds it -/
theorem acq_hold {n : Nat} {L : LL} (h : Ok n L) (ws wt o : Int) {e : Nat} (he : e < n) : (acq n L ws wt e o 2).L (e * 2) ≠ [] := by
  have h1 := h e he
  have hne : ¬ ¬ (0 ≤ (e : Int) ∧ (e : Int) < (n : Int)) := fun hc => hc ⟨by omega, by omega⟩
  unfold acq
  rw [if_neg (by omega), if_neg hne]
  simp only [Int.toNat_natCast]
  split
  · rename_i hh
    intro e0
    have e0 : L (e * 2) = [] := e0
    by_cases hr : L (e * 2 + 1) = []
    · rw [e0, hr] at hh
      simp [has, plV, pl] at hh
    · exact h1.ne hr e0
  · split
    · show upd L (e * 2) (L (e * 2) ++ [(o, 2)]) (e * 2) ≠ []
      rw [upd_same]
      simp
    · rename_i hg
      have key : L (e * 2) ≠ [] := by
        by_cases hr : L (e * 2 + 1) = []
        · intro e0
          exact hg ⟨hr, by rw [e0]; rfl⟩
        · exact h1.ne hr
      split
      · exact key
      · show upd L (e * 2 + 1) _ (e * 2) ≠ []
        rw [upd_other _ _ _ (by omega)]
        exact key
end Go.Proofs.Ytijfnacplikibab
namespace Go.Proofs.Ytijfnacplikibab
open Go.RowKit
set_option linter.unusedVariables false
set_option linter.unusedSimpArgs false
set_option maxRecDepth 20000

section
variable {w x y : World} {p b n : Nat} {V : Nat → Value} {L : LL} {ws wt : Int} {B : Nat}
theorem AS.acquire (h : AS w x p b n V L ws wt B) (hB : B ≤ 7900000000000) (e md o : Int) : Calls Try.prog 15 #[.pointer (some ⟨p, 0, none⟩), .int .i64 e, .int .i64 md, .int .i64 o] x fun e' y => e' = .returned (.tuple #[.bool (acq n L ws wt e o md).gr, .int .i64 (acq n L ws wt e o md).err]) ∧ ∃ V', AS w y p b n V' (acq n L ws wt e o md).L ws (acq n L ws wt e o md).wt (B + 1) ∧ Tr (fun _ => False) x y (TU p b n V) (TU p b n V') := by
  refine (Acquire_any x p b n V L ws wt e md o B h.t h.wf hB).mono ?_
  rintro e' y ⟨rfl, V', hT, hTr⟩
  exact ⟨rfl, V', h.step hT (acq_wf h.wf e o md) (ok_acq h.ok ws wt e o md) hTr fun g h => h.elim, hTr⟩
theorem AS.release (h : AS w x p b n V L ws wt B) (hB : B ≤ 3900000000000) (e o : Int) : Calls Try.prog 17 #[.pointer (some ⟨p, 0, none⟩), .int .i64 e, .int .i64 o] x fun e' y => ∃ v V', e' = .returned (.tuple #[v, .int .i64 (rls n L wt e o).err]) ∧ AS w y p b n V' (rls n L wt e o).L ws (rls n L wt e o).wt B ∧ Tr (fun _ => False) x y (TU p b n V) (TU p b n V') ∧ IRow y v (rls n L wt e o).inn ∧ ∀ g, v.ownBlock = some g → x.heap.size ≤ g := by
  refine (Release_any x p b n V L ws wt e o B h.t h.wf hB).mono ?_
  rintro e' y ⟨v, V', rfl, hTL⟩
  exact ⟨v, V', rfl, h.step hTL.t (rls_wf h.wf e o) (ok_rls h.ok wt e o) hTL.tr fun g h => h.elim, hTL.tr, hTL.i, hTL.nw⟩
theorem AS.drop (h : AS w x p b n V L ws wt B) (hB : B ≤ 3900000000000) (o : Int) : Calls Try.prog 21 #[.pointer (some ⟨p, 0, none⟩), .int .i64 o] x fun e' y => ∃ v V', e' = .returned v ∧ AS w y p b n V' (drp n L wt o n).L ws (drp n L wt o n).wt B ∧ Tr (fun _ => False) x y (TU p b n V) (TU p b n V') ∧ IRow y v (drp n L wt o n).inn ∧ ∀ g, v.ownBlock = some g → x.heap.size ≤ g := by
  refine (Drop_any x p b n V L ws wt o B h.t h.wf hB).mono ?_
  rintro e' y ⟨v, V', rfl, hTL⟩
  exact ⟨v, V', rfl, h.step hTL.t (drp_wf h.wf o n) (ok_drp h.ok wt o n) hTL.tr fun g h => h.elim, hTL.tr, hTL.i, hTL.nw⟩
theorem AS.waiters (h : AS w x p b n V L ws wt B) (hB : B ≤ 7900000000000) {e : Nat} (he : e < n) : Calls Try.prog 27 #[.pointer (some ⟨p, 0, none⟩), .int .i64 (e : Int)] x fun e' y => ∃ v, e' = .returned (.tuple #[v, .int .i64 0]) ∧ AS w y p b n V L ws wt B ∧ Chg (· = p) x y ∧ IRow y v ((L (e * 2 + 1)).map Prod.fst) ∧ ∀ g, v.ownBlock = some g → x.heap.size ≤ g := by
  refine (Waiters_any x p b n V L ws wt e h.t he (by have := h.wf.all (e * 2 + 1); omega)).mono ?_
  rintro e' y ⟨v, rfl, hT, hC, hI, hN⟩
  exact ⟨v, rfl, h.asked hT hC, hC, hI, hN⟩
theorem AS.holders (h : AS w x p b n V L ws wt B) (hB : B ≤ 7900000000000) {e : Nat} (he : e < n) : Calls Try.prog 25 #[.pointer (some ⟨p, 0, none⟩), .int .i64 (e : Int)] x fun e' y => ∃ v, e' = .returned (.tuple #[v, .int .i64 (modeOf (L (e * 2))), .int .i64 0]) ∧ AS w y p b n V L ws wt B ∧ Chg (· = p) x y ∧ IRow y v ((L (e * 2)).map Prod.fst) ∧ ∀ g, v.ownBlock = some g → x.heap.size ≤ g := by
  refine (Holders_any x p b n V L ws wt e h.t he (by have := h.wf.all (e * 2); omega)).mono ?_
  rintro e' y ⟨v, rfl, hT, hC, hI, hN⟩
  exact ⟨v, rfl, h.asked hT hC, hC, hI, hN⟩
theorem AS.waiting (h : AS w x p b n V L ws wt B) : Calls Try.prog 29 #[.pointer (some ⟨p, 0, none⟩)] x fun e' y => e' = .returned (.int .i64 wt) ∧ AS w y p b n V L ws wt B ∧ Chg (· = p) x y := by
  refine (Waiting_any x p b n V L ws wt h.t).mono ?_
  rintro e' y ⟨rfl, hT, hC⟩
  exact ⟨rfl, h.asked hT hC, hC⟩
theorem AS.holds (h : AS w x p b n V L ws wt B) {e : Nat} (he : e < n) (o : Int) : Calls Try.prog 23 #[.pointer (some ⟨p, 0, none⟩), .int .i64 (e : Int), .int .i64 o] x fun e' y => e' = .returned (.bool (has (L (e * 2)) o)) ∧ AS w y p b n V L ws wt B ∧ Chg (· = p) x y := by
  refine (Holds_any x p b n V L ws wt e o h.t he).mono ?_
  rintro e' y ⟨rfl, hT, hC⟩
  exact ⟨rfl, h.asked hT hC, hC⟩
/-- a list of numbers grows -/
theorem AS.app (h : AS w x p b n V L ws wt B) {v v' : Value} {l : List Int} (hv : IRow x v l) (ha : App x y v v') (hlo : ∀ g, v.ownBlock = some g → w.heap.size ≤ g) : AS w y p b n V L ws wt B := by
  have hT : TRep y p b 0 n V L ws wt := h.t.kept fun g hg => ha.chg.keep g (h.t.lt g hg) fun e => by
    obtain ⟨cs, hc⟩ := rowCells hv e
    exact h.t.nt hc (by decide) (by decide) (by decide) hg
  exact h.step hT h.wf h.ok (R := fun g => v.ownBlock = some g) ⟨ha.chg.mono fun g _ e => .inr e, fun g hg => .inl hg⟩ hlo
end
theorem IRow.app {x y : World} {u v v' : Value} {l : List Int} (hu : IRow x u l) (ha : App x y v v') (hne : ∀ g, u.ownBlock = some g → v.ownBlock ≠ some g) : IRow y u l := hu.kept fun g hg => ha.chg.keep g (hu.lt hg) (hne g hg)
end Go.Proofs.Ytijfnacplikibab
namespace Go.Proofs.Ytijfnacplikibab
open Go.RowKit
set_option linter.unusedVariables false
set_option linter.unusedSimpArgs false
set_option maxRecDepth 20000

/-- the blocks of a pair: the program's table and the document's -/
def DU (pp p b n : Nat) (V : Nat → Value) (q : Nat) (v : Value) (g : Nat) : Prop := g = pp ∨ TU p b n V g ∨ g = q ∨ v.ownBlock = some g
/-- in a step of a pair that began at w: both tables, the book, the operation's box -/
structure DM (late : Bool) (w x : World) (D0 : Nat → Prop) (pp k p b n : Nat) (V : Nat → Value) (L : LL) (room : Nat) (wt : Int) (q : Nat) (v : Value) (P : List Pc) (T : Nat) (U : Nat → Prop) (c : Nat) (oc : Array Value) : Prop where
  row : x.heap[pp]? = some (.cells #[.pointer (some ⟨p, 0, none⟩), .pointer (some ⟨q, 0, none⟩), .pointer (some ⟨k, 0, none⟩)] 40 (0, 0))
  t : TRep x p b 0 n V L (room : Int) wt
  r : RT x q v n room P T
  bk : BkB late x k U c
  box : x.heap[w.heap.size]? = some (.cells oc 36 (0, 0))
  ap : ∀ g, DU pp p b n V q v g → ¬ U g
  chg : Chg (fun g => D0 g ∨ U g) w x
  loc : ∀ g, DU pp p b n V q v g → D0 g ∨ w.heap.size ≤ g
  us : ∀ g, U g → g < w.heap.size
/-- what a step leaves -/
def SPL (late : Bool) (w y : World) (D0 : Nat → Prop) (pp k p b n : Nat) (L : LL) (room : Nat) (wt : Int) (q : Nat) (N : Nat) (U : Nat → Prop) (c : Nat) : Prop :=
  ∃ V v P T U', (y.heap[pp]? = some (.cells #[.pointer (some ⟨p, 0, none⟩), .pointer (some ⟨q, 0, none⟩), .pointer (some ⟨k, 0, none⟩)] 40 (0, 0)) ∧ TRep y p b 0 n V L (room : Int) wt ∧ RT y q v n room P T) ∧ (Sm n L P T ∧ P.length ≤ N ∧ T + wtN P ≤ N) ∧ BkB late y k U' c ∧ Chg (fun g => D0 g ∨ U g) w y ∧ (∀ g, U' g → U g ∨ w.heap.size ≤ g) ∧ (∀ g, DU pp p b n V q v g → D0 g ∨ w.heap.size ≤ g) ∧ ∀ g, DU pp p b n V q v g → ¬ U' g
section
variable {late : Bool} {w x y z : World} {D0 : Nat → Prop} {pp k p b n : Nat} {V V' : Nat → Value} {L L' : LL} {room : Nat} {wt wt' : Int} {q : Nat} {v v' : Value} {P P' : List Pc} {T T' : Nat} {U : Nat → Prop} {c : Nat} {oc : Array Value}
theorem DM.lt (h : DM late w x D0 pp k p b n V L room wt q v P T U c oc) : ∀ g, DU pp p b n V q v g → g < x.heap.size := by
  rintro g (rfl | e | rfl | e)
  · exact (Array.getElem?_eq_some_iff.1 h.row).1
  · exact h.t.lt g e
  · exact h.r.lt
  · exact h.r.vlt e
theorem DM.cs (h : DM late w x D0 pp k p b n V L room wt q v P T U c oc) : x.cell? ⟨pp, 0, none⟩ = some (.pointer (some ⟨p, 0, none⟩)) ∧ x.cell? ⟨pp, 1, none⟩ = some (.pointer (some ⟨q, 0, none⟩)) ∧ x.cell? ⟨pp, 2, none⟩ = some (.pointer (some ⟨k, 0, none⟩)) :=
  ⟨by rw [cell_of_row _ _ _ _ _ _ h.row]; rfl, by rw [cell_of_row _ _ _ _ _ _ h.row]; rfl, by rw [cell_of_row _ _ _ _ _ _ h.row]; rfl⟩
theorem DM.o (h : DM late w x D0 pp k p b n V L room wt q v P T U c oc) (i : Nat) : x.cell? ⟨w.heap.size, i, none⟩ = oc[i]? := cell_of_row _ _ _ _ _ _ h.box
/-- the program's table has turned -/
theorem DM.prog (h : DM late w x D0 pp k p b n V L room wt q v P T U c oc) (hT : TRep y p b 0 n V' L' (room : Int) wt') (tr : Tr (fun _ => False) x y (TU p b n V) (TU p b n V')) : DM late w y D0 pp k p b n V' L' room wt' q v P T U c oc := by
  have hs := h.chg.size
  have key : ∀ {g : Nat} {cs : Array Value} {t : TypeId}, x.heap[g]? = some (.cells cs t (0, 0)) → t ≠ 70 → t ≠ 89 → t ≠ 75 → y.heap[g]? = x.heap[g]? := fun {g cs t} hg h1 h2 h3 => tr.chg.keep g (Array.getElem?_eq_some_iff.1 hg).1 fun e => e.elim (h.t.nt hg h1 h2 h3) id
  have hloc : ∀ g, DU pp p b n V' q v g → DU pp p b n V q v g ∨ x.heap.size ≤ g := by
    rintro g (e | e | e)
    · exact .inl (.inl e)
    · exact (tr.loc g e).imp (fun e => .inr (.inl e)) id
    · exact .inl (.inr (.inr e))
  refine ⟨(key h.row (by decide) (by decide) (by decide)).trans h.row, hT, h.r.kept ?_, h.bk.chg tr.chg fun g hu e => ?_, (key h.box (by decide) (by decide) (by decide)).trans h.box, fun g e hu => ?_, ?_, fun g e => ?_, h.us⟩
  · rintro g (rfl | e)
    · exact key h.r.row (by decide) (by decide) (by decide)
    · obtain ⟨cs, hcs⟩ := h.r.own.cellsOf e
      exact key hcs (by decide) (by decide) (by decide)
  · exact e.elim (fun e => h.ap g (.inr (.inl e)) hu) id
  · rcases hloc g e with e | e
    · exact h.ap g e hu
    · have := h.us g hu; omega
  · exact h.chg.trans2 tr.chg fun g hg e => e.elim (fun e => (h.loc g (.inr (.inl e))).elim .inl fun e => by omega) fun e => e.elim
  · rcases hloc g e with e | e
    · exact h.loc g e
    · exact .inr (by omega)
theorem DM.ask (h : DM late w x D0 pp k p b n V L room wt q v P T U c oc) (hT : TRep y p b 0 n V L (room : Int) wt) (hc : Chg (· = p) x y) : DM late w y D0 pp k p b n V L room wt q v P T U c oc := h.prog hT ⟨hc.mono fun g _ e => .inl (.inl e), fun g e => .inl e⟩
/-- the document's table has turned -/
theorem DM.doc (h : DM late w x D0 pp k p b n V L room wt q v P T U c oc) (hR : RTt x y q v v' n room P' T') : DM late w y D0 pp k p b n V L room wt q v' P' T' U c oc := by
  have hs := h.chg.size
  have key : ∀ {g : Nat} {cs : Array Value} {t : TypeId}, x.heap[g]? = some (.cells cs t (0, 0)) → t ≠ 73 → t ≠ 83 → y.heap[g]? = x.heap[g]? := fun {g cs t} hg h1 h2 => hR.chg.keep g (Array.getElem?_eq_some_iff.1 hg).1 (by
    rintro (e | e)
    · exact neType hg h.r.row h1 e
    · obtain ⟨ds, hds⟩ := h.r.own.cellsOf e
      exact neType hg hds h2 rfl)
  have hloc : ∀ g, DU pp p b n V q v' g → DU pp p b n V q v g ∨ x.heap.size ≤ g := by
    rintro g (e | e | e | e)
    · exact .inl (.inl e)
    · exact .inl (.inr (.inl e))
    · exact .inl (.inr (.inr (.inl e)))
    · exact (hR.loc g e).imp (fun e => .inr (.inr (.inr e))) id
  have hq : ∀ g, (g = q ∨ v.ownBlock = some g) → DU pp p b n V q v g := fun g e => .inr (.inr e)
  refine ⟨(key h.row (by decide) (by decide)).trans h.row, h.t.kept fun g hg => ?_, hR.t, h.bk.chg hR.chg fun g hu e => h.ap g (hq g e) hu, (key h.box (by decide) (by decide)).trans h.box, fun g e hu => ?_, ?_, fun g e => ?_, h.us⟩
  · refine hR.chg.keep g (h.t.lt g hg) fun e => ?_
    rcases e with rfl | e
    · exact h.t.nt h.r.row (by decide) (by decide) (by decide) hg
    · obtain ⟨cs, hcs⟩ := h.r.own.cellsOf e
      exact h.t.nt hcs (by decide) (by decide) (by decide) hg
  · rcases hloc g e with e | e
    · exact h.ap g e hu
    · have := h.us g hu; omega
  · exact h.chg.trans2 hR.chg fun g hg e => (h.loc g (hq g e)).elim .inl fun e => by omega
  · rcases hloc g e with e | e
    · exact h.loc g e
    · exact .inr (by omega)
theorem DM.calm (h : DM late w x D0 pp k p b n V L room wt q v P T U c oc) (hb : Below x.heap.size x y) : DM late w y D0 pp k p b n V L room wt q v P T U c oc :=
  h.prog (h.t.below hb) (Tr.ofBelow hb)
theorem DM.irow (h : DM late w x D0 pp k p b n V L room wt q v P T U c oc) (hR : RTt x y q v v' n room P' T') {u : Value} {l : List Int} (hu : IRow x u l) : IRow y u l := hu.byT h.r hR.chg
/-- nothing was handed out -/
theorem DM.fin {N : Nat} (h : DM late w x D0 pp k p b n V L room wt q v P T U c oc) (sm : Sm n L P T) (hl : P.length ≤ N) (ht : T + wtN P ≤ N) : SPL late w x D0 pp k p b n L room wt q N U (c + 1) :=
  ⟨V, v, P, T, U, ⟨h.row, h.t, h.r⟩, ⟨sm, hl, ht⟩, h.bk.more (by omega), h.chg, fun g e => .inl e, h.loc, h.ap⟩
/-- a list was handed out, and kept -/
theorem DM.keep {N : Nat} {a : Value} {l : List Int} (h : DM late w x D0 pp k p b n V L room wt q v P T U c oc) (sm : Sm n L P T) (hl : P.length ≤ N) (ht : T + wtN P ≤ N) (ha : IRow x a l) (hn : ∀ g, a.ownBlock = some g → w.heap.size ≤ g) (hK : KPB late k c U x a y) : SPL late w y D0 pp k p b n L room wt q N U (c + 1) := by
  obtain ⟨U', hB, h1, h2⟩ := hK
  have hs := h.chg.size
  have nD : ∀ g, DU pp p b n V q v g → ¬ (U g ∨ a.ownBlock = some g) := fun g e => by
    rintro (e2 | e2)
    · exact h.ap g e e2
    · obtain ⟨cs, hcs⟩ := ha.cellsOf e2
      rcases e with rfl | e | rfl | e
      · exact neType hcs h.row (by decide) rfl
      · exact h.t.nt hcs (by decide) (by decide) (by decide) e
      · exact neType hcs h.r.row (by decide) rfl
      · obtain ⟨ds, hds⟩ := h.r.own.cellsOf e
        exact neType hcs hds (by decide) rfl
  have kp : ∀ g, DU pp p b n V q v g → y.heap[g]? = x.heap[g]? := fun g e => h1.keep g (h.lt g e) (nD g e)
  refine ⟨V, v, P, T, U', ⟨(kp pp (.inl rfl)).trans h.row, h.t.kept fun g e => kp g (.inr (.inl e)), h.r.kept fun g e => kp g (.inr (.inr e))⟩, ⟨sm, hl, ht⟩, hB, h.chg.trans2 h1 (fun g hg e => e.elim .inr fun e => by have := hn g e; omega), fun g e => ?_, h.loc, fun g e e2 => ?_⟩
  · rcases h2 g e with e | e | e
    · exact .inl e
    · exact .inr (hn g e)
    · exact .inr (by omega)
  · rcases h2 g e2 with e3 | e3 | e3
    · exact nD g e (.inl e3)
    · exact nD g e (.inr e3)
    · have := h.lt g e; omega
end
/-- what the questions answer -/
def inR (n : Nat) (e : Int) : Bool := decide (0 ≤ e) && decide (e < (n : Int))
def hoL (n : Nat) (L : LL) (e : Int) : List Int := if inR n e = true then (L (e.toNat * 2)).map Prod.fst else []
def hoM (n : Nat) (L : LL) (e : Int) : Int := if inR n e = true then modeOf (L (e.toNat * 2)) else 0
def hoE (n : Nat) (e : Int) : Int := if inR n e = true then 0 else 2
def waL (n : Nat) (L : LL) (e : Int) : List Int := if inR n e = true then (L (e.toNat * 2 + 1)).map Prod.fst else []
def hdB (n : Nat) (L : LL) (e o : Int) : Bool := if inR n e = true then has (L (e.toNat * 2)) o else false
theorem inR_yes {n : Nat} {e : Int} (h : inR n e = true) : ∃ j : Nat, e = (j : Int) ∧ j < n := by
  simp only [inR, Bool.and_eq_true, decide_eq_true_eq] at h
  exact ⟨e.toNat, by omega, by omega⟩
theorem inR_no {n : Nat} {e : Int} (h : ¬ inR n e = true) : ¬ (0 ≤ e ∧ e < (n : Int)) := by
  simpa only [inR, Bool.and_eq_true, decide_eq_true_eq] using h
section
variable {w : World} {p b n room : Nat} {V : Nat → Value} {L : LL} {wt : Int} {q : Nat} {v : Value} {P : List Pc} {T B : Nat}
theorem pHolders (h : TRep w p b 0 n V L (room : Int) wt) (wf : WF n L (room : Int) wt B) (hB : B ≤ 9000000) (e : Int) : Calls Try.prog 25 #[.pointer (some ⟨p, 0, none⟩), .int .i64 e] w fun e' w' => ∃ v, e' = .returned (.tuple #[v, .int .i64 (hoM n L e), .int .i64 (hoE n e)]) ∧ TRep w' p b 0 n V L (room : Int) wt ∧ Chg (· = p) w w' ∧ IRow w' v (hoL n L e) ∧ ∀ g, v.ownBlock = some g → w.heap.size ≤ g := by
  unfold hoM hoE hoL
  by_cases hc : inR n e = true
  · obtain ⟨j, rfl, hj⟩ := inR_yes hc
    simp only [if_pos hc, Int.toNat_natCast]
    exact Holders_any w p b n V L room wt j h hj (by have := wf.all (j * 2); omega)
  · simp only [if_neg hc]
    refine (Holders_no w p b n V L room wt e h (inR_no hc)).mono ?_
    rintro e' y ⟨rfl, h1, h2⟩
    exact ⟨_, rfl, h1, h2, rnil _, fun g e => by simp [Value.ownBlock] at e⟩
theorem pWaiters (h : TRep w p b 0 n V L (room : Int) wt) (wf : WF n L (room : Int) wt B) (hB : B ≤ 9000000) (e : Int) : Calls Try.prog 27 #[.pointer (some ⟨p, 0, none⟩), .int .i64 e] w fun e' w' => ∃ v, e' = .returned (.tuple #[v, .int .i64 (hoE n e)]) ∧ TRep w' p b 0 n V L (room : Int) wt ∧ Chg (· = p) w w' ∧ IRow w' v (waL n L e) ∧ ∀ g, v.ownBlock = some g → w.heap.size ≤ g := by
  unfold hoE waL
  by_cases hc : inR n e = true
  · obtain ⟨j, rfl, hj⟩ := inR_yes hc
    simp only [if_pos hc, Int.toNat_natCast]
    exact Waiters_any w p b n V L room wt j h hj (by have := wf.all (j * 2 + 1); omega)
  · simp only [if_neg hc]
    refine (Waiters_no w p b n V L room wt e h (inR_no hc)).mono ?_
    rintro e' y ⟨rfl, h1, h2⟩
    exact ⟨_, rfl, h1, h2, rnil _, fun g e => by simp [Value.ownBlock] at e⟩
theorem pHolds (h : TRep w p b 0 n V L (room : Int) wt) (e o : Int) : Calls Try.prog 23 #[.pointer (some ⟨p, 0, none⟩), .int .i64 e, .int .i64 o] w fun e' w' => e' = .returned (.bool (hdB n L e o)) ∧ TRep w' p b 0 n V L (room : Int) wt ∧ Chg (· = p) w w' := by
  unfold hdB
  by_cases hc : inR n e = true
  · obtain ⟨j, rfl, hj⟩ := inR_yes hc
    simp only [if_pos hc, Int.toNat_natCast]
    exact Holds_any w p b n V L room wt j o h hj
  · simp only [if_neg hc]
    exact Holds_no w p b n V L room wt e o h (inR_no hc)
theorem dHolders (h : RT w q v n room P T) (sm : Sm n L P T) (ok : Ok n L) (hl : P.length ≤ 9000000) (e : Int) : Calls Try.prog 26 #[.pointer (some ⟨q, 0, none⟩), .int .i64 e] w fun e' w' => ∃ rv, e' = .returned (.tuple #[rv, .int .i64 (hoM n L e), .int .i64 (hoE n e)]) ∧ NI w w' rv (hoL n L e) := by
  unfold hoM hoE hoL
  by_cases hc : inR n e = true
  · obtain ⟨j, rfl, hj⟩ := inR_yes hc
    simp only [if_pos hc, Int.toNat_natCast]
    exact rholders_any h sm ok hl hj
  · simp only [if_neg hc]
    exact rholders_no h (inR_no hc)
theorem dWaiters (h : RT w q v n room P T) (sm : Sm n L P T) (hl : P.length ≤ 9000000) (e : Int) : Calls Try.prog 28 #[.pointer (some ⟨q, 0, none⟩), .int .i64 e] w fun e' w' => ∃ rv, e' = .returned (.tuple #[rv, .int .i64 (hoE n e)]) ∧ NI w w' rv (waL n L e) := by
  unfold hoE waL
  by_cases hc : inR n e = true
  · obtain ⟨j, rfl, hj⟩ := inR_yes hc
    simp only [if_pos hc, Int.toNat_natCast]
    exact rwaiters_any h sm hl hj
  · simp only [if_neg hc]
    exact rwaiters_no h (inR_no hc)
theorem dHolds (h : RT w q v n room P T) (sm : Sm n L P T) (ok : Ok n L) (hl : P.length ≤ 9000000) (e o : Int) : Calls Try.prog 24 #[.pointer (some ⟨q, 0, none⟩), .int .i64 e, .int .i64 o] w fun e' w' => e' = .returned (.bool (hdB n L e o)) ∧ Below w.heap.size w w' := by
  unfold hdB
  by_cases hc : inR n e = true
  · obtain ⟨j, rfl, hj⟩ := inR_yes hc
    simp only [if_pos hc, Int.toNat_natCast]
    exact rholds_has h sm ok hl hj o
  · simp only [if_neg hc]
    have k := rholds_any h (by omega) e o
    have hx : ¬ 0 ≤ ixB (fnd e o) P := fun h0 => by
      obtain ⟨x, hx, hf⟩ := (ixB_pos _ _).1 h0
      simp only [fnd, Bool.and_eq_true, beq_iff_eq] at hf
      have := sm.rg x hx
      exact inR_no hc (by rw [← hf.1]; exact this)
    rwa [decide_eq_false hx, Bool.false_and] at k
end
end Go.Proofs.Ytijfnacplikibab
namespace Go.Proofs.Ytijfnacplikibab
open Go.RowKit
set_option linter.unusedVariables false
set_option linter.unusedSimpArgs false
set_option maxRecDepth 20000

/-- a pair at rest, with the book -/
structure DR (late : Bool) (w : World) (pp k p b n : Nat) (V : Nat → Value) (L : LL) (room : Nat) (wt : Int) (q : Nat) (v : Value) (P : List Pc) (T : Nat) (U : Nat → Prop) (N B c : Nat) : Prop where
  row : w.heap[pp]? = some (.cells #[.pointer (some ⟨p, 0, none⟩), .pointer (some ⟨q, 0, none⟩), .pointer (some ⟨k, 0, none⟩)] 40 (0, 0))
  t : TRep w p b 0 n V L (room : Int) wt
  r : RT w q v n room P T
  bk : BkB late w k U c
  ap : ∀ g, DU pp p b n V q v g → ¬ U g
  sm : Sm n L P T
  wf : WF n L (room : Int) wt B
  ok : Ok n L
  hl : P.length ≤ N
  ht : T + wtN P ≤ N
  hn : n ≤ 4096
/-- a step has been done -/
def STP (late : Bool) (w : World) (pp k p b n room q N B : Nat) (U : Nat → Prop) (c : Nat) (D0 : Nat → Prop) (e' : Ending) (y : World) : Prop := e' = .returned (.bool true) ∧ ∃ L' wt', WF n L' (room : Int) wt' B ∧ Ok n L' ∧ SPL late w y D0 pp k p b n L' room wt' q N U c
section
variable {late : Bool} {w : World} {pp k p b n : Nat} {V : Nat → Value} {L : LL} {room : Nat} {wt : Int} {q : Nat} {v : Value} {P : List Pc} {T N B c : Nat} {U : Nat → Prop}
theorem dec_self (l : List Int) : decide (l = l) = true := by simp
theorem DR.start (h : DR late w pp k p b n V L room wt q v P T U N B c) (oc : Array Value) : DM late w (w.alloc (.cells oc 36)) (DU pp p b n V q v) pp k p b n V L room wt q v P T U c oc := by
  have hb := (Below.refl w.heap.size w).alloc (Nat.le_refl _) (.cells oc 36)
  exact ⟨(hb.block pp (Array.getElem?_eq_some_iff.1 h.row).1).trans h.row, h.t.below hb, h.r.below hb, h.bk.below hb, Go.heap_alloc_new w _, h.ap, Chg.ofBelow hb, fun g e => .inl e, h.bk.lt⟩
theorem DM.drew {x : World} {D0 : Nat → Prop} {oc : Array Value} (h : DM late w x D0 pp k p b n V L room wt q v P T U c oc) : DM late w x.drew D0 pp k p b n V L room wt q v P T U c oc := h.calm ⟨rfl, rfl, rfl, Nat.le_refl _, fun _ _ => rfl⟩
set_option maxHeartbeats 2000000 in
theorem stp_1 (h : DR late w pp k p b n V L room wt q v P T U N B c) (hN : N ≤ 8000000) (hB : B ≤ 8000000) (hc : c ≤ 90000000) (snd : Bool) (e md o : Int) : Calls Try.prog 10 #[.pointer (some ⟨pp, 0, none⟩), .agg (opRow 1 snd e md o)] w (STP late w pp k p b n room q (N + 1) (B + 1) U (c + 1) (DU pp p b n V q v)) := by
  unfold opRow
  have HM := hide (h.start #[.int .i64 1, .bool snd, .int .i64 e, .int .i64 md, .int .i64 o])
  have hUS := hide h.bk.lt
  generalize hD0 : DU pp p b n V q v = D0 at *
  clear hD0
  have HT := hide fun z oc (hz : DM late w z D0 pp k p b n V L room wt q v P T U c oc) => Acquire_any z p b n V L (room : Int) wt e md o B hz.t h.wf (by omega)
  have HR := hide fun z V' L' wt' oc (hz : DM late w z D0 pp k p b n V' L' room wt' q v P T U c oc) => racq_any hz.r h.sm h.ok h.wf h.hl h.ht (by omega) e md o
  have HF := hide (And.intro (acq_wf h.wf e o md) (ok_acq h.ok (room : Int) wt e o md))
  generalize acq n L (room : Int) wt e o md = A at *
  obtain ⟨er, gr, L1, wt1⟩ := A
  simp only [] at HT HR HF
  obtain ⟨c0, c1, c2⟩ := HM.out.cs
  have o2 : (w.alloc (.cells #[.int .i64 1, .bool snd, .int .i64 e, .int .i64 md, .int .i64 o] 36)).cell? ⟨w.heap.size, 2, none⟩ = some (.int .i64 e) := HM.out.o 2
  have o3 : (w.alloc (.cells #[.int .i64 1, .bool snd, .int .i64 e, .int .i64 md, .int .i64 o] 36)).cell? ⟨w.heap.size, 3, none⟩ = some (.int .i64 md) := HM.out.o 3
  have o4 : (w.alloc (.cells #[.int .i64 1, .bool snd, .int .i64 e, .int .i64 md, .int .i64 o] 36)).cell? ⟨w.heap.size, 4, none⟩ = some (.int .i64 o) := HM.out.o 4
  clear h
  go_enter Try.func10, Try.ntmps10
  go_wp2_with fail
  have HND := hide HM.out.drew
  go_region_held3 (fun z => z.cell? ⟨pp, 0, none⟩ = some (.pointer (some ⟨p, 0, none⟩)) ∧ z.cell? ⟨w.heap.size, 2, none⟩ = some (.int .i64 e) ∧ z.cell? ⟨w.heap.size, 3, none⟩ = some (.int .i64 md) ∧ z.cell? ⟨w.heap.size, 4, none⟩ = some (.int .i64 o)) (first | exact ⟨c0, o2, o3, o4⟩ | exact ⟨d0, p2, p3, p4⟩ | assumption)
    ((go_at_call 15; refine (HT.out _ _ HND.out).mono ?_; rintro e' w2 ⟨rfl, V1, ht2, htr⟩; have HM2 := hide (HND.out.prog ht2 htr); obtain ⟨d0, d1, d2⟩ := HM2.out.cs; have p2 : w2.cell? ⟨w.heap.size, 2, none⟩ = some (.int .i64 e) := HM2.out.o 2; have p3 : w2.cell? ⟨w.heap.size, 3, none⟩ = some (.int .i64 md) := HM2.out.o 3; have p4 : w2.cell? ⟨w.heap.size, 4, none⟩ = some (.int .i64 o) := HM2.out.o 4; clear ht2 htr HT))
  go_wp2_with fail
  have HN3 := hide HM2.out.drew
  go_region_held3 (fun z => z.cell? ⟨pp, 1, none⟩ = some (.pointer (some ⟨q, 0, none⟩)) ∧ z.cell? ⟨w.heap.size, 2, none⟩ = some (.int .i64 e) ∧ z.cell? ⟨w.heap.size, 3, none⟩ = some (.int .i64 md) ∧ z.cell? ⟨w.heap.size, 4, none⟩ = some (.int .i64 o)) (first | exact ⟨d1, p2, p3, p4⟩ | exact ⟨g1, r2, r3, r4⟩ | assumption)
    ((go_at_call 16; refine (HR.out _ _ _ _ _ HN3.out).mono ?_; rintro e' w3 ⟨rfl, ⟨v1, P1, T1, hrt, hsm, hl1, ht1⟩⟩; have HM4 := hide (HN3.out.doc hrt); obtain ⟨g0, g1, g2⟩ := HM4.out.cs; have r2 : w3.cell? ⟨w.heap.size, 2, none⟩ = some (.int .i64 e) := HM4.out.o 2; have r3 : w3.cell? ⟨w.heap.size, 3, none⟩ = some (.int .i64 md) := HM4.out.o 3; have r4 : w3.cell? ⟨w.heap.size, 4, none⟩ = some (.int .i64 o) := HM4.out.o 4; have HSM := hide (And.intro hsm (And.intro hl1 ht1)); clear hrt hsm hl1 ht1 HR))
  go_wp2_with fail
  go_ret
  exact ⟨rfl, _, _, HF.out.1, HF.out.2, HM4.out.fin HSM.out.1 HSM.out.2.1 HSM.out.2.2⟩
set_option maxHeartbeats 2000000 in
theorem stp_4 (h : DR late w pp k p b n V L room wt q v P T U N B c) (hN : N ≤ 8000000) (hB : B ≤ 8000000) (hc : c ≤ 90000000) (snd : Bool) (e md o : Int) : Calls Try.prog 10 #[.pointer (some ⟨pp, 0, none⟩), .agg (opRow 4 snd e md o)] w (STP late w pp k p b n room q (N + 1) (B + 1) U (c + 1) (DU pp p b n V q v)) := by
  unfold opRow
  have HM := hide (h.start #[.int .i64 4, .bool snd, .int .i64 e, .int .i64 md, .int .i64 o])
  have hUS := hide h.bk.lt
  generalize hD0 : DU pp p b n V q v = D0 at *
  clear hD0
  have HT := hide fun z oc (hz : DM late w z D0 pp k p b n V L room wt q v P T U c oc) => pHolds hz.t e o
  have HR := hide fun z oc (hz : DM late w z D0 pp k p b n V L room wt q v P T U c oc) => dHolds hz.r h.sm h.ok (by have := h.hl; omega) e o
  have HF := hide (And.intro (h.wf.mono (Nat.le_succ B)) h.ok)
  have HSM := hide (And.intro h.sm (And.intro (show P.length ≤ N + 1 by have := h.hl; omega) (show T + wtN P ≤ N + 1 by have := h.ht; omega)))
  generalize hdB n L e o = d at *
  obtain ⟨c0, c1, c2⟩ := HM.out.cs
  have o2 : (w.alloc (.cells #[.int .i64 4, .bool snd, .int .i64 e, .int .i64 md, .int .i64 o] 36)).cell? ⟨w.heap.size, 2, none⟩ = some (.int .i64 e) := HM.out.o 2
  have o3 : (w.alloc (.cells #[.int .i64 4, .bool snd, .int .i64 e, .int .i64 md, .int .i64 o] 36)).cell? ⟨w.heap.size, 3, none⟩ = some (.int .i64 md) := HM.out.o 3
  have o4 : (w.alloc (.cells #[.int .i64 4, .bool snd, .int .i64 e, .int .i64 md, .int .i64 o] 36)).cell? ⟨w.heap.size, 4, none⟩ = some (.int .i64 o) := HM.out.o 4
  clear h
  go_enter Try.func10, Try.ntmps10
  go_wp2_with fail
  have HND := hide HM.out.drew
  go_region_held3 (fun z => z.cell? ⟨pp, 0, none⟩ = some (.pointer (some ⟨p, 0, none⟩)) ∧ z.cell? ⟨pp, 1, none⟩ = some (.pointer (some ⟨q, 0, none⟩)) ∧ z.cell? ⟨w.heap.size, 2, none⟩ = some (.int .i64 e) ∧ z.cell? ⟨w.heap.size, 4, none⟩ = some (.int .i64 o)) (first | exact ⟨c0, c1, o2, o4⟩ | exact ⟨d0, d1, p2, p4⟩ | exact ⟨f0, f1, r2, r4⟩ | assumption)
    (first
      | (go_at_call 23; refine (HT.out _ _ HND.out).mono ?_; rintro e' w2 ⟨rfl, ht2, hc2⟩; have HM2 := hide (HND.out.ask ht2 hc2); obtain ⟨d0, d1, d2⟩ := HM2.out.cs; have p2 : w2.cell? ⟨w.heap.size, 2, none⟩ = some (.int .i64 e) := HM2.out.o 2; have p3 : w2.cell? ⟨w.heap.size, 3, none⟩ = some (.int .i64 md) := HM2.out.o 3; have p4 : w2.cell? ⟨w.heap.size, 4, none⟩ = some (.int .i64 o) := HM2.out.o 4; clear ht2 hc2 HT)
      | (go_at_call 24; refine (HR.out _ _ HM2.out).mono ?_; rintro e' w3 ⟨rfl, hb3⟩; have HM3 := hide (HM2.out.calm hb3); obtain ⟨f0, f1, f2⟩ := HM3.out.cs; have r2 : w3.cell? ⟨w.heap.size, 2, none⟩ = some (.int .i64 e) := HM3.out.o 2; have r4 : w3.cell? ⟨w.heap.size, 4, none⟩ = some (.int .i64 o) := HM3.out.o 4; clear hb3 HR))
  go_wp2_with fail
  go_ret
  exact ⟨by simp, _, _, HF.out.1, HF.out.2, HM3.out.fin HSM.out.1 HSM.out.2.1 HSM.out.2.2⟩
set_option maxHeartbeats 2000000 in
theorem stp_7 (h : DR late w pp k p b n V L room wt q v P T U N B c) (hN : N ≤ 8000000) (hB : B ≤ 8000000) (hc : c ≤ 90000000) (snd : Bool) (e md o : Int) : Calls Try.prog 10 #[.pointer (some ⟨pp, 0, none⟩), .agg (opRow 7 snd e md o)] w (STP late w pp k p b n room q (N + 1) (B + 1) U (c + 1) (DU pp p b n V q v)) := by
  unfold opRow
  have HM := hide (h.start #[.int .i64 7, .bool snd, .int .i64 e, .int .i64 md, .int .i64 o])
  have hUS := hide h.bk.lt
  generalize hD0 : DU pp p b n V q v = D0 at *
  clear hD0
  have HT := hide fun z oc (hz : DM late w z D0 pp k p b n V L room wt q v P T U c oc) => Waiting_any z p b n V L (room : Int) wt hz.t
  have HR := hide fun z oc (hz : DM late w z D0 pp k p b n V L room wt q v P T U c oc) => rwaiting_wt hz.r h.sm h.wf (by have := h.hl; omega)
  have HF := hide (And.intro (h.wf.mono (Nat.le_succ B)) h.ok)
  have HSM := hide (And.intro h.sm (And.intro (show P.length ≤ N + 1 by have := h.hl; omega) (show T + wtN P ≤ N + 1 by have := h.ht; omega)))
  obtain ⟨c0, c1, c2⟩ := HM.out.cs
  have o2 : (w.alloc (.cells #[.int .i64 7, .bool snd, .int .i64 e, .int .i64 md, .int .i64 o] 36)).cell? ⟨w.heap.size, 2, none⟩ = some (.int .i64 e) := HM.out.o 2
  have o3 : (w.alloc (.cells #[.int .i64 7, .bool snd, .int .i64 e, .int .i64 md, .int .i64 o] 36)).cell? ⟨w.heap.size, 3, none⟩ = some (.int .i64 md) := HM.out.o 3
  have o4 : (w.alloc (.cells #[.int .i64 7, .bool snd, .int .i64 e, .int .i64 md, .int .i64 o] 36)).cell? ⟨w.heap.size, 4, none⟩ = some (.int .i64 o) := HM.out.o 4
  clear h
  go_enter Try.func10, Try.ntmps10
  go_wp2_with fail
  have HND := hide HM.out.drew
  go_region_held3 (fun z => z.cell? ⟨pp, 0, none⟩ = some (.pointer (some ⟨p, 0, none⟩)) ∧ z.cell? ⟨pp, 1, none⟩ = some (.pointer (some ⟨q, 0, none⟩))) (first | exact ⟨c0, c1⟩ | exact ⟨d0, d1⟩ | assumption)
    (first
      | (go_at_call 29; refine (HT.out _ _ HND.out).mono ?_; rintro e' w2 ⟨rfl, ht2, hc2⟩; have HM2 := hide (HND.out.ask ht2 hc2); obtain ⟨d0, d1, d2⟩ := HM2.out.cs; clear ht2 hc2 HT)
      | (go_at_call 30; refine (HR.out _ _ HM2.out).mono ?_; rintro e' w3 ⟨rfl, rfl⟩; clear HR))
  go_wp2_with fail
  go_ret
  exact ⟨by simp, _, _, HF.out.1, HF.out.2, HM2.out.fin HSM.out.1 HSM.out.2.1 HSM.out.2.2⟩
set_option maxHeartbeats 2000000 in
theorem stp_0 (h : DR late w pp k p b n V L room wt q v P T U N B c) (hN : N ≤ 8000000) (hB : B ≤ 8000000) (hc : c ≤ 90000000) {kind : Int} (hk : ∀ i : Int, 1 ≤ i → i ≤ 7 → kind ≠ i) (snd : Bool) (e md o : Int) : Calls Try.prog 10 #[.pointer (some ⟨pp, 0, none⟩), .agg (opRow kind snd e md o)] w (STP late w pp k p b n room q (N + 1) (B + 1) U (c + 1) (DU pp p b n V q v)) := by
  have z1 : (kind == 1) = false := by simpa using hk 1 (by omega) (by omega)
  have z2 : (kind == 2) = false := by simpa using hk 2 (by omega) (by omega)
  have z3 : (kind == 3) = false := by simpa using hk 3 (by omega) (by omega)
  have z4 : (kind == 4) = false := by simpa using hk 4 (by omega) (by omega)
  have z5 : (kind == 5) = false := by simpa using hk 5 (by omega) (by omega)
  have z6 : (kind == 6) = false := by simpa using hk 6 (by omega) (by omega)
  have z7 : (kind == 7) = false := by simpa using hk 7 (by omega) (by omega)
  clear hk
  unfold opRow
  have HM := hide (h.start #[.int .i64 kind, .bool snd, .int .i64 e, .int .i64 md, .int .i64 o])
  have HF := hide (And.intro (h.wf.mono (Nat.le_succ B)) h.ok)
  have HSM := hide (And.intro h.sm (And.intro (show P.length ≤ N + 1 by have := h.hl; omega) (show T + wtN P ≤ N + 1 by have := h.ht; omega)))
  clear h
  go_enter Try.func10, Try.ntmps10
  go_wp2_with fail
  go_ret
  exact ⟨rfl, _, _, HF.out.1, HF.out.2, HM.out.fin HSM.out.1 HSM.out.2.1 HSM.out.2.2⟩
end
end Go.Proofs.Ytijfnacplikibab
namespace Go.Proofs.Ytijfnacplikibab
open Go.RowKit
set_option linter.unusedVariables false
set_option linter.unusedSimpArgs false
set_option maxRecDepth 20000

section
variable {late : Bool} {w : World} {pp k p b n : Nat} {V : Nat → Value} {L : LL} {room : Nat} {wt : Int} {q : Nat} {v : Value} {P : List Pc} {T N B c : Nat} {U : Nat → Prop}
set_option maxHeartbeats 2000000 in
theorem stp_2 (h : DR late w pp k p b n V L room wt q v P T U N B c) (hN : N ≤ 8000000) (hB : B ≤ 8000000) (hc : c ≤ 90000000) (snd : Bool) (e md o : Int) : Calls Try.prog 10 #[.pointer (some ⟨pp, 0, none⟩), .agg (opRow 2 snd e md o)] w (STP late w pp k p b n room q (N + 1) (B + 1) U (c + 1) (DU pp p b n V q v)) := by
  unfold opRow
  have HM := hide (h.start #[.int .i64 2, .bool snd, .int .i64 e, .int .i64 md, .int .i64 o])
  have hUS := hide h.bk.lt
  generalize hD0 : DU pp p b n V q v = D0 at *
  clear hD0
  have HT := hide fun z oc (hz : DM late w z D0 pp k p b n V L room wt q v P T U c oc) => Release_any z p b n V L (room : Int) wt e o B hz.t h.wf (by omega)
  have HR := hide fun z V' L' wt' oc (hz : DM late w z D0 pp k p b n V' L' room wt' q v P T U c oc) => rrel_any (wt := wt) hz.r h.sm h.ok h.hl h.ht (by omega) e o
  have HF := hide (And.intro ((rls_wf h.wf e o).mono (Nat.le_succ B)) (ok_rls h.ok wt e o))
  have HLN := hide (show (rls n L wt e o).inn.length ≤ 9100000 by have := rls_small h.wf e o; omega)
  unfold RlP at HR
  generalize rls n L wt e o = A at *
  obtain ⟨er, inn, L1, wt1⟩ := A
  simp only [] at HT HR HF HLN
  have HK := hide fun z V' L' wt' v' P' T' oc (hz : DM late w z D0 pp k p b n V' L' room wt' q v' P' T' U c oc) (a : Value) (l : List Int) (ha : IRow z a l) (hl : l.length ≤ 9100000) (hn : ∀ g, a.ownBlock = some g → w.heap.size ≤ g) => keepAny hz.bk ha (isl_row ha) (by omega) (by omega) (fun g e hu => by have := hn g e; have := hUS.out g hu; omega)
  have HS := hide fun z (a a' : Value) (l l' : List Int) (ha : IRow z a l) (ha' : IRow z a' l') => same_any z a a' l l' ha ha'
  obtain ⟨c0, c1, c2⟩ := HM.out.cs
  have o2 : (w.alloc (.cells #[.int .i64 2, .bool snd, .int .i64 e, .int .i64 md, .int .i64 o] 36)).cell? ⟨w.heap.size, 2, none⟩ = some (.int .i64 e) := HM.out.o 2
  have o3 : (w.alloc (.cells #[.int .i64 2, .bool snd, .int .i64 e, .int .i64 md, .int .i64 o] 36)).cell? ⟨w.heap.size, 3, none⟩ = some (.int .i64 md) := HM.out.o 3
  have o4 : (w.alloc (.cells #[.int .i64 2, .bool snd, .int .i64 e, .int .i64 md, .int .i64 o] 36)).cell? ⟨w.heap.size, 4, none⟩ = some (.int .i64 o) := HM.out.o 4
  clear h
  go_enter Try.func10, Try.ntmps10
  go_wp2_with fail
  have HND := hide HM.out.drew
  go_region_held3 (fun z => z.cell? ⟨pp, 0, none⟩ = some (.pointer (some ⟨p, 0, none⟩)) ∧ z.cell? ⟨w.heap.size, 2, none⟩ = some (.int .i64 e) ∧ z.cell? ⟨w.heap.size, 4, none⟩ = some (.int .i64 o)) (first | exact ⟨c0, o2, o4⟩ | exact ⟨d0, p2, p4⟩ | assumption)
    ((go_at_call 17; refine (HT.out _ _ HND.out).mono ?_; rintro e' w2 ⟨a1, V1, rfl, htl⟩; have HM2 := hide (HND.out.prog htl.t htl.tr); have HV2 := hide htl.i; have HVL : Hid (∀ g, a1.ownBlock = some g → w.heap.size ≤ g) := hide fun g hg => Nat.le_trans HND.out.chg.size (htl.nw g hg); obtain ⟨d0, d1, d2⟩ := HM2.out.cs; have p2 : w2.cell? ⟨w.heap.size, 2, none⟩ = some (.int .i64 e) := HM2.out.o 2; have p3 : w2.cell? ⟨w.heap.size, 3, none⟩ = some (.int .i64 md) := HM2.out.o 3; have p4 : w2.cell? ⟨w.heap.size, 4, none⟩ = some (.int .i64 o) := HM2.out.o 4; clear htl HT))
  go_wp2_with fail
  have HN3 := hide HM2.out.drew
  have HV3 : Hid (IRow w2.drew a1 inn) := hide (HV2.out.kept fun _ _ => rfl)
  go_region_held3 (fun z => z.cell? ⟨pp, 1, none⟩ = some (.pointer (some ⟨q, 0, none⟩)) ∧ z.cell? ⟨w.heap.size, 2, none⟩ = some (.int .i64 e) ∧ z.cell? ⟨w.heap.size, 4, none⟩ = some (.int .i64 o)) (first | exact ⟨d1, p2, p4⟩ | exact ⟨g1, r2, r4⟩ | assumption)
    ((go_at_call 18; refine (HR.out _ _ _ _ _ HN3.out).mono ?_; rintro e' w3 ⟨a2, rfl, ⟨v1, P1, T1, hrt, hsm, hl1, ht1⟩, hz4, -⟩; have HM4 := hide (HN3.out.doc hrt); have HV4 := hide (HN3.out.irow hrt HV3.out); have HZ4 := hide hz4; obtain ⟨g0, g1, g2⟩ := HM4.out.cs; have r2 : w3.cell? ⟨w.heap.size, 2, none⟩ = some (.int .i64 e) := HM4.out.o 2; have r3 : w3.cell? ⟨w.heap.size, 3, none⟩ = some (.int .i64 md) := HM4.out.o 3; have r4 : w3.cell? ⟨w.heap.size, 4, none⟩ = some (.int .i64 o) := HM4.out.o 4; have HSM := hide (And.intro hsm (And.intro (show P1.length ≤ N + 1 by omega) (show T1 + wtN P1 ≤ N + 1 by omega))); clear hrt hsm hl1 ht1 hz4 HR))
  go_wp2_with (first
    | (go_at_call 19; refine (HS.out _ _ _ _ _ HV4.out HZ4.out).mono ?_; rintro e' w5 ⟨rfl, hb5⟩; rw [dec_self]; have HM5 := hide (HM4.out.calm hb5); have HV5 : Hid (IRow w5 a1 inn) := hide (HV4.out.below' hb5); obtain ⟨f0, f1, f2⟩ := HM5.out.cs; clear hb5)
    | (go_at_call 20; refine (HK.out _ _ _ _ _ _ _ _ HM5.out _ _ HV5.out HLN.out HVL.out).mono ?_; rintro e' w6 ⟨rfl, hkp⟩; have HFI := hide (HM5.out.keep HSM.out.1 HSM.out.2.1 HSM.out.2.2 HV5.out HVL.out hkp); clear hkp))
  go_ret
  exact ⟨rfl, _, _, HF.out.1, HF.out.2, HFI.out⟩
set_option maxHeartbeats 2000000 in
theorem stp_3 (h : DR late w pp k p b n V L room wt q v P T U N B c) (hN : N ≤ 8000000) (hB : B ≤ 8000000) (hc : c ≤ 90000000) (snd : Bool) (e md o : Int) : Calls Try.prog 10 #[.pointer (some ⟨pp, 0, none⟩), .agg (opRow 3 snd e md o)] w (STP late w pp k p b n room q (N + 1) (B + 1) U (c + 1) (DU pp p b n V q v)) := by
  unfold opRow
  have HM := hide (h.start #[.int .i64 3, .bool snd, .int .i64 e, .int .i64 md, .int .i64 o])
  have hUS := hide h.bk.lt
  generalize hD0 : DU pp p b n V q v = D0 at *
  clear hD0
  have HT := hide fun z oc (hz : DM late w z D0 pp k p b n V L room wt q v P T U c oc) => Drop_any z p b n V L (room : Int) wt o B hz.t h.wf (by omega)
  have HR := hide fun z V' L' wt' oc (hz : DM late w z D0 pp k p b n V' L' room wt' q v P T U c oc) => rdrop_any (wt := wt) hz.r h.sm h.ok h.wf h.hl h.ht (by omega) h.hn o
  have HF := hide (And.intro ((drp_wf h.wf o n).mono (Nat.le_succ B)) (ok_drp h.ok wt o n))
  have HLN := hide (show (drp n L wt o n).inn.length ≤ 9100000 by have := drp_small h.wf o n; omega)
  generalize drp n L wt o n = A at *
  obtain ⟨er, inn, L1, wt1⟩ := A
  simp only [] at HT HR HF HLN
  have HK := hide fun z V' L' wt' v' P' T' oc (hz : DM late w z D0 pp k p b n V' L' room wt' q v' P' T' U c oc) (a : Value) (l : List Int) (ha : IRow z a l) (hl : l.length ≤ 9100000) (hn : ∀ g, a.ownBlock = some g → w.heap.size ≤ g) => keepAny hz.bk ha (isl_row ha) (by omega) (by omega) (fun g e hu => by have := hn g e; have := hUS.out g hu; omega)
  have HS := hide fun z (a a' : Value) (l l' : List Int) (ha : IRow z a l) (ha' : IRow z a' l') => same_any z a a' l l' ha ha'
  obtain ⟨c0, c1, c2⟩ := HM.out.cs
  have o2 : (w.alloc (.cells #[.int .i64 3, .bool snd, .int .i64 e, .int .i64 md, .int .i64 o] 36)).cell? ⟨w.heap.size, 2, none⟩ = some (.int .i64 e) := HM.out.o 2
  have o3 : (w.alloc (.cells #[.int .i64 3, .bool snd, .int .i64 e, .int .i64 md, .int .i64 o] 36)).cell? ⟨w.heap.size, 3, none⟩ = some (.int .i64 md) := HM.out.o 3
  have o4 : (w.alloc (.cells #[.int .i64 3, .bool snd, .int .i64 e, .int .i64 md, .int .i64 o] 36)).cell? ⟨w.heap.size, 4, none⟩ = some (.int .i64 o) := HM.out.o 4
  clear h
  go_enter Try.func10, Try.ntmps10
  go_wp2_with fail
  have HND := hide HM.out.drew
  go_region_held3 (fun z => z.cell? ⟨pp, 0, none⟩ = some (.pointer (some ⟨p, 0, none⟩)) ∧ z.cell? ⟨w.heap.size, 4, none⟩ = some (.int .i64 o)) (first | exact ⟨c0, o4⟩ | exact ⟨d0, p4⟩ | assumption)
    ((go_at_call 21; refine (HT.out _ _ HND.out).mono ?_; rintro e' w2 ⟨a1, V1, rfl, htl⟩; have HM2 := hide (HND.out.prog htl.t htl.tr); have HV2 := hide htl.i; have HVL : Hid (∀ g, a1.ownBlock = some g → w.heap.size ≤ g) := hide fun g hg => Nat.le_trans HND.out.chg.size (htl.nw g hg); obtain ⟨d0, d1, d2⟩ := HM2.out.cs; have p2 : w2.cell? ⟨w.heap.size, 2, none⟩ = some (.int .i64 e) := HM2.out.o 2; have p3 : w2.cell? ⟨w.heap.size, 3, none⟩ = some (.int .i64 md) := HM2.out.o 3; have p4 : w2.cell? ⟨w.heap.size, 4, none⟩ = some (.int .i64 o) := HM2.out.o 4; clear htl HT))
  go_wp2_with fail
  have HN3 := hide HM2.out.drew
  have HV3 : Hid (IRow w2.drew a1 inn) := hide (HV2.out.kept fun _ _ => rfl)
  go_region_held3 (fun z => z.cell? ⟨pp, 1, none⟩ = some (.pointer (some ⟨q, 0, none⟩)) ∧ z.cell? ⟨w.heap.size, 4, none⟩ = some (.int .i64 o)) (first | exact ⟨d1, p4⟩ | exact ⟨g1, r4⟩ | assumption)
    ((go_at_call 22; refine (HR.out _ _ _ _ _ HN3.out).mono ?_; rintro e' w3 ⟨a2, rfl, ⟨⟨v1, P1, T1, hrt, hsm, hl1, ht1⟩, hz4, -⟩⟩; have HM4 := hide (HN3.out.doc hrt); have HV4 := hide (HN3.out.irow hrt HV3.out); have HZ4 := hide hz4; obtain ⟨g0, g1, g2⟩ := HM4.out.cs; have r2 : w3.cell? ⟨w.heap.size, 2, none⟩ = some (.int .i64 e) := HM4.out.o 2; have r3 : w3.cell? ⟨w.heap.size, 3, none⟩ = some (.int .i64 md) := HM4.out.o 3; have r4 : w3.cell? ⟨w.heap.size, 4, none⟩ = some (.int .i64 o) := HM4.out.o 4; have HSM := hide (And.intro hsm (And.intro (show P1.length ≤ N + 1 by omega) (show T1 + wtN P1 ≤ N + 1 by omega))); clear hrt hsm hl1 ht1 hz4 HR))
  go_wp2_with (first
    | (go_at_call 19; refine (HS.out _ _ _ _ _ HV4.out HZ4.out).mono ?_; rintro e' w5 ⟨rfl, hb5⟩; rw [dec_self]; have HM5 := hide (HM4.out.calm hb5); have HV5 : Hid (IRow w5 a1 inn) := hide (HV4.out.below' hb5); obtain ⟨f0, f1, f2⟩ := HM5.out.cs; clear hb5)
    | (go_at_call 20; refine (HK.out _ _ _ _ _ _ _ _ HM5.out _ _ HV5.out HLN.out HVL.out).mono ?_; rintro e' w6 ⟨rfl, hkp⟩; have HFI := hide (HM5.out.keep HSM.out.1 HSM.out.2.1 HSM.out.2.2 HV5.out HVL.out hkp); clear hkp))
  go_ret
  exact ⟨rfl, _, _, HF.out.1, HF.out.2, HFI.out⟩
end
end Go.Proofs.Ytijfnacplikibab
namespace Go.Proofs.Ytijfnacplikibab
open Go.RowKit
set_option linter.unusedVariables false
set_option linter.unusedSimpArgs false
set_option maxRecDepth 20000

section
variable {late : Bool} {w : World} {pp k p b n : Nat} {V : Nat → Value} {L : LL} {room : Nat} {wt : Int} {q : Nat} {v : Value} {P : List Pc} {T N B c : Nat} {U : Nat → Prop}
theorem hoL_small (wf : WF n L (room : Int) wt B) (hB : B ≤ 8000000) (e : Int) : (hoL n L e).length ≤ 9100000 := by
  unfold hoL
  split
  · rw [List.length_map]; have := wf.all (e.toNat * 2); have := wf.all (e.toNat * 2 + 1); omega
  · simp
set_option maxHeartbeats 2000000 in
theorem stp_5 (h : DR late w pp k p b n V L room wt q v P T U N B c) (hN : N ≤ 8000000) (hB : B ≤ 8000000) (hc : c ≤ 90000000) (snd : Bool) (e md o : Int) : Calls Try.prog 10 #[.pointer (some ⟨pp, 0, none⟩), .agg (opRow 5 snd e md o)] w (STP late w pp k p b n room q (N + 1) (B + 1) U (c + 1) (DU pp p b n V q v)) := by
  unfold opRow
  have HM := hide (h.start #[.int .i64 5, .bool snd, .int .i64 e, .int .i64 md, .int .i64 o])
  have hUS := hide h.bk.lt
  generalize hD0 : DU pp p b n V q v = D0 at *
  clear hD0
  have HT := hide fun z oc (hz : DM late w z D0 pp k p b n V L room wt q v P T U c oc) => pHolders hz.t h.wf (by omega) e
  have HR := hide fun z oc (hz : DM late w z D0 pp k p b n V L room wt q v P T U c oc) => dHolders hz.r h.sm h.ok (by have := h.hl; omega) e
  have HF := hide (And.intro (h.wf.mono (Nat.le_succ B)) h.ok)
  have HSM := hide (And.intro h.sm (And.intro (show P.length ≤ N + 1 by have := h.hl; omega) (show T + wtN P ≤ N + 1 by have := h.ht; omega)))
  have HLN := hide (hoL_small h.wf hB e)
  generalize hoM n L e = mo at *
  generalize hoE n e = er at *
  generalize hoL n L e = inn at *
  have HK := hide fun z V' L' wt' v' P' T' oc (hz : DM late w z D0 pp k p b n V' L' room wt' q v' P' T' U c oc) (a : Value) (l : List Int) (ha : IRow z a l) (hl : l.length ≤ 9100000) (hn : ∀ g, a.ownBlock = some g → w.heap.size ≤ g) => keepAny hz.bk ha (isl_row ha) (by omega) (by omega) (fun g e hu => by have := hn g e; have := hUS.out g hu; omega)
  have HS := hide fun z (a a' : Value) (l l' : List Int) (ha : IRow z a l) (ha' : IRow z a' l') => same_any z a a' l l' ha ha'
  obtain ⟨c0, c1, c2⟩ := HM.out.cs
  have o2 : (w.alloc (.cells #[.int .i64 5, .bool snd, .int .i64 e, .int .i64 md, .int .i64 o] 36)).cell? ⟨w.heap.size, 2, none⟩ = some (.int .i64 e) := HM.out.o 2
  have o3 : (w.alloc (.cells #[.int .i64 5, .bool snd, .int .i64 e, .int .i64 md, .int .i64 o] 36)).cell? ⟨w.heap.size, 3, none⟩ = some (.int .i64 md) := HM.out.o 3
  have o4 : (w.alloc (.cells #[.int .i64 5, .bool snd, .int .i64 e, .int .i64 md, .int .i64 o] 36)).cell? ⟨w.heap.size, 4, none⟩ = some (.int .i64 o) := HM.out.o 4
  clear h
  go_enter Try.func10, Try.ntmps10
  go_wp2_with fail
  have HND := hide HM.out.drew
  go_region_held3 (fun z => z.cell? ⟨pp, 0, none⟩ = some (.pointer (some ⟨p, 0, none⟩)) ∧ z.cell? ⟨w.heap.size, 2, none⟩ = some (.int .i64 e)) (first | exact ⟨c0, o2⟩ | exact ⟨d0, p2⟩ | assumption)
    ((go_at_call 25; refine (HT.out _ _ HND.out).mono ?_; rintro e' w2 ⟨a1, rfl, ht2, hc2, hv2, hl2⟩; have HM2 := hide (HND.out.ask ht2 hc2); have HV2 := hide hv2; have HVL : Hid (∀ g, a1.ownBlock = some g → w.heap.size ≤ g) := hide fun g hg => Nat.le_trans HND.out.chg.size (hl2 g hg); obtain ⟨d0, d1, d2⟩ := HM2.out.cs; have p2 : w2.cell? ⟨w.heap.size, 2, none⟩ = some (.int .i64 e) := HM2.out.o 2; have p3 : w2.cell? ⟨w.heap.size, 3, none⟩ = some (.int .i64 md) := HM2.out.o 3; have p4 : w2.cell? ⟨w.heap.size, 4, none⟩ = some (.int .i64 o) := HM2.out.o 4; clear ht2 hc2 hv2 hl2 HT))
  go_wp2_with fail
  have HN3 := hide HM2.out.drew
  have HV3 : Hid (IRow w2.drew a1 inn) := hide (HV2.out.kept fun _ _ => rfl)
  go_region_held3 (fun z => z.cell? ⟨pp, 1, none⟩ = some (.pointer (some ⟨q, 0, none⟩)) ∧ z.cell? ⟨w.heap.size, 2, none⟩ = some (.int .i64 e)) (first | exact ⟨d1, p2⟩ | exact ⟨g1, r2⟩ | assumption)
    ((go_at_call 26; refine (HR.out _ _ HN3.out).mono ?_; rintro e' w3 ⟨a2, rfl, hni⟩; have HM4 := hide (HN3.out.calm hni.bel); have HV4 := hide (HV3.out.below' hni.bel); have HZ4 := hide hni.row; obtain ⟨g0, g1, g2⟩ := HM4.out.cs; have r2 : w3.cell? ⟨w.heap.size, 2, none⟩ = some (.int .i64 e) := HM4.out.o 2; have r3 : w3.cell? ⟨w.heap.size, 3, none⟩ = some (.int .i64 md) := HM4.out.o 3; have r4 : w3.cell? ⟨w.heap.size, 4, none⟩ = some (.int .i64 o) := HM4.out.o 4; clear hni HR))
  go_wp2_with (first
    | (go_at_call 19; refine (HS.out _ _ _ _ _ HV4.out HZ4.out).mono ?_; rintro e' w5 ⟨rfl, hb5⟩; rw [dec_self]; have HM5 := hide (HM4.out.calm hb5); have HV5 : Hid (IRow w5 a1 inn) := hide (HV4.out.below' hb5); obtain ⟨f0, f1, f2⟩ := HM5.out.cs; clear hb5)
    | (go_at_call 20; refine (HK.out _ _ _ _ _ _ _ _ HM5.out _ _ HV5.out HLN.out HVL.out).mono ?_; rintro e' w6 ⟨rfl, hkp⟩; have HFI := hide (HM5.out.keep HSM.out.1 HSM.out.2.1 HSM.out.2.2 HV5.out HVL.out hkp); clear hkp))
  go_ret
  exact ⟨rfl, _, _, HF.out.1, HF.out.2, HFI.out⟩
theorem waL_small (wf : WF n L (room : Int) wt B) (hB : B ≤ 8000000) (e : Int) : (waL n L e).length ≤ 9100000 := by
  unfold waL
  split
  · rw [List.length_map]; have := wf.all (e.toNat * 2); have := wf.all (e.toNat * 2 + 1); omega
  · simp
set_option maxHeartbeats 2000000 in
theorem stp_6 (h : DR late w pp k p b n V L room wt q v P T U N B c) (hN : N ≤ 8000000) (hB : B ≤ 8000000) (hc : c ≤ 90000000) (snd : Bool) (e md o : Int) : Calls Try.prog 10 #[.pointer (some ⟨pp, 0, none⟩), .agg (opRow 6 snd e md o)] w (STP late w pp k p b n room q (N + 1) (B + 1) U (c + 1) (DU pp p b n V q v)) := by
  unfold opRow
  have HM := hide (h.start #[.int .i64 6, .bool snd, .int .i64 e, .int .i64 md, .int .i64 o])
  have hUS := hide h.bk.lt
  generalize hD0 : DU pp p b n V q v = D0 at *
  clear hD0
  have HT := hide fun z oc (hz : DM late w z D0 pp k p b n V L room wt q v P T U c oc) => pWaiters hz.t h.wf (by omega) e
  have HR := hide fun z oc (hz : DM late w z D0 pp k p b n V L room wt q v P T U c oc) => dWaiters hz.r h.sm (by have := h.hl; omega) e
  have HF := hide (And.intro (h.wf.mono (Nat.le_succ B)) h.ok)
  have HSM := hide (And.intro h.sm (And.intro (show P.length ≤ N + 1 by have := h.hl; omega) (show T + wtN P ≤ N + 1 by have := h.ht; omega)))
  have HLN := hide (waL_small h.wf hB e)
  generalize hoE n e = er at *
  generalize waL n L e = inn at *
  have HK := hide fun z V' L' wt' v' P' T' oc (hz : DM late w z D0 pp k p b n V' L' room wt' q v' P' T' U c oc) (a : Value) (l : List Int) (ha : IRow z a l) (hl : l.length ≤ 9100000) (hn : ∀ g, a.ownBlock = some g → w.heap.size ≤ g) => keepAny hz.bk ha (isl_row ha) (by omega) (by omega) (fun g e hu => by have := hn g e; have := hUS.out g hu; omega)
  have HS := hide fun z (a a' : Value) (l l' : List Int) (ha : IRow z a l) (ha' : IRow z a' l') => same_any z a a' l l' ha ha'
  obtain ⟨c0, c1, c2⟩ := HM.out.cs
  have o2 : (w.alloc (.cells #[.int .i64 6, .bool snd, .int .i64 e, .int .i64 md, .int .i64 o] 36)).cell? ⟨w.heap.size, 2, none⟩ = some (.int .i64 e) := HM.out.o 2
  have o3 : (w.alloc (.cells #[.int .i64 6, .bool snd, .int .i64 e, .int .i64 md, .int .i64 o] 36)).cell? ⟨w.heap.size, 3, none⟩ = some (.int .i64 md) := HM.out.o 3
  have o4 : (w.alloc (.cells #[.int .i64 6, .bool snd, .int .i64 e, .int .i64 md, .int .i64 o] 36)).cell? ⟨w.heap.size, 4, none⟩ = some (.int .i64 o) := HM.out.o 4
  clear h
  go_enter Try.func10, Try.ntmps10
  go_wp2_with fail
  have HND := hide HM.out.drew
  go_region_held3 (fun z => z.cell? ⟨pp, 0, none⟩ = some (.pointer (some ⟨p, 0, none⟩)) ∧ z.cell? ⟨w.heap.size, 2, none⟩ = some (.int .i64 e)) (first | exact ⟨c0, o2⟩ | exact ⟨d0, p2⟩ | assumption)
    ((go_at_call 27; refine (HT.out _ _ HND.out).mono ?_; rintro e' w2 ⟨a1, rfl, ht2, hc2, hv2, hl2⟩; have HM2 := hide (HND.out.ask ht2 hc2); have HV2 := hide hv2; have HVL : Hid (∀ g, a1.ownBlock = some g → w.heap.size ≤ g) := hide fun g hg => Nat.le_trans HND.out.chg.size (hl2 g hg); obtain ⟨d0, d1, d2⟩ := HM2.out.cs; have p2 : w2.cell? ⟨w.heap.size, 2, none⟩ = some (.int .i64 e) := HM2.out.o 2; have p3 : w2.cell? ⟨w.heap.size, 3, none⟩ = some (.int .i64 md) := HM2.out.o 3; have p4 : w2.cell? ⟨w.heap.size, 4, none⟩ = some (.int .i64 o) := HM2.out.o 4; clear ht2 hc2 hv2 hl2 HT))
  go_wp2_with fail
  have HN3 := hide HM2.out.drew
  have HV3 : Hid (IRow w2.drew a1 inn) := hide (HV2.out.kept fun _ _ => rfl)
  go_region_held3 (fun z => z.cell? ⟨pp, 1, none⟩ = some (.pointer (some ⟨q, 0, none⟩)) ∧ z.cell? ⟨w.heap.size, 2, none⟩ = some (.int .i64 e)) (first | exact ⟨d1, p2⟩ | exact ⟨g1, r2⟩ | assumption)
    ((go_at_call 28; refine (HR.out _ _ HN3.out).mono ?_; rintro e' w3 ⟨a2, rfl, hni⟩; have HM4 := hide (HN3.out.calm hni.bel); have HV4 := hide (HV3.out.below' hni.bel); have HZ4 := hide hni.row; obtain ⟨g0, g1, g2⟩ := HM4.out.cs; have r2 : w3.cell? ⟨w.heap.size, 2, none⟩ = some (.int .i64 e) := HM4.out.o 2; have r3 : w3.cell? ⟨w.heap.size, 3, none⟩ = some (.int .i64 md) := HM4.out.o 3; have r4 : w3.cell? ⟨w.heap.size, 4, none⟩ = some (.int .i64 o) := HM4.out.o 4; clear hni HR))
  go_wp2_with (first
    | (go_at_call 19; refine (HS.out _ _ _ _ _ HV4.out HZ4.out).mono ?_; rintro e' w5 ⟨rfl, hb5⟩; rw [dec_self]; have HM5 := hide (HM4.out.calm hb5); have HV5 : Hid (IRow w5 a1 inn) := hide (HV4.out.below' hb5); obtain ⟨f0, f1, f2⟩ := HM5.out.cs; clear hb5)
    | (go_at_call 20; refine (HK.out _ _ _ _ _ _ _ _ HM5.out _ _ HV5.out HLN.out HVL.out).mono ?_; rintro e' w6 ⟨rfl, hkp⟩; have HFI := hide (HM5.out.keep HSM.out.1 HSM.out.2.1 HSM.out.2.2 HV5.out HVL.out hkp); clear hkp))
  go_ret
  exact ⟨rfl, _, _, HF.out.1, HF.out.2, HFI.out⟩
end
end Go.Proofs.Ytijfnacplikibab
namespace Go.Proofs.Ytijfnacplikibab
open Go.RowKit
set_option linter.unusedVariables false
set_option linter.unusedSimpArgs false
set_option maxRecDepth 20000

section
variable {late : Bool} {w : World} {pp k p b n : Nat} {V : Nat → Value} {L : LL} {room : Nat} {wt : Int} {q : Nat} {v : Value} {P : List Pc} {T N B c : Nat} {U : Nat → Prop}
/-- one step of a pair, of any kind -/
theorem stp_any (h : DR late w pp k p b n V L room wt q v P T U N B c) (hN : N ≤ 8000000) (hB : B ≤ 8000000) (hc : c ≤ 90000000) (kind : Int) (snd : Bool) (e md o : Int) : Calls Try.prog 10 #[.pointer (some ⟨pp, 0, none⟩), .agg (opRow kind snd e md o)] w (STP late w pp k p b n room q (N + 1) (B + 1) U (c + 1) (DU pp p b n V q v)) := by
  by_cases h1 : kind = 1
  · subst h1; exact stp_1 h hN hB hc snd e md o
  by_cases h2 : kind = 2
  · subst h2; exact stp_2 h hN hB hc snd e md o
  by_cases h3 : kind = 3
  · subst h3; exact stp_3 h hN hB hc snd e md o
  by_cases h4 : kind = 4
  · subst h4; exact stp_4 h hN hB hc snd e md o
  by_cases h5 : kind = 5
  · subst h5; exact stp_5 h hN hB hc snd e md o
  by_cases h6 : kind = 6
  · subst h6; exact stp_6 h hN hB hc snd e md o
  by_cases h7 : kind = 7
  · subst h7; exact stp_7 h hN hB hc snd e md o
  exact stp_0 h hN hB hc (fun i h8 h9 => by omega) snd e md o
end
/-- a side of a run: its pair's block, the table if there is one, its blocks D -/
def Side (x : World) (k pp N B : Nat) (D : Nat → Prop) : Option Nat → Prop
  | none => x.cell? ⟨pp, 0, none⟩ = some (.pointer none) ∧ ∀ g, D g ↔ g = pp
  | some p => ∃ b n V L room wt q v P T, ((x.heap[pp]? = some (.cells #[.pointer (some ⟨p, 0, none⟩), .pointer (some ⟨q, 0, none⟩), .pointer (some ⟨k, 0, none⟩)] 40 (0, 0)) ∧ TRep x p b 0 n V L ((room : Nat) : Int) wt ∧ RT x q v n room P T) ∧ Sm n L P T ∧ WF n L ((room : Nat) : Int) wt B ∧ Ok n L ∧ P.length ≤ N ∧ T + wtN P ≤ N ∧ n ≤ 4096) ∧ ∀ g, D g ↔ DU pp p b n V q v g
section
variable {late : Bool} {w x y : World} {k pp N B N' B' c c' a1 a2 : Nat} {D D1 D2 : Nat → Prop} {s s1 s2 : Option Nat}
theorem Side.lt (h : Side x k pp N B D s) : ∀ g, D g → g < x.heap.size := by
  cases s with
  | none =>
    intro g e
    rw [h.2 g] at e
    subst e
    exact World.block_lt_of_cell? x _ h.1
  | some p =>
    obtain ⟨b, n, V, L, room, wt, q, v, P, T, ⟨⟨h1, h2, h3⟩, -⟩, hD⟩ := h
    intro g e
    rw [hD g] at e
    rcases e with rfl | e | rfl | e
    · exact (Array.getElem?_eq_some_iff.1 h1).1
    · exact h2.lt g e
    · exact h3.lt
    · exact h3.vlt e
theorem Side.kept (h : Side x k pp N B D s) (hk : ∀ g, D g → y.heap[g]? = x.heap[g]?) (hN : N ≤ N') (hB : B ≤ B') : Side y k pp N' B' D s := by
  cases s with
  | none => exact ⟨(World.cell?_of_block (hk pp ((h.2 pp).2 rfl))).trans h.1, h.2⟩
  | some p =>
    obtain ⟨b, n, V, L, room, wt, q, v, P, T, ⟨⟨h1, h2, h3⟩, h4, h5, h6, h7, h8, h9⟩, hD⟩ := h
    exact ⟨b, n, V, L, room, wt, q, v, P, T, ⟨⟨(hk pp ((hD pp).2 (.inl rfl))).trans h1, h2.kept fun g e => hk g ((hD g).2 (.inr (.inl e))), h3.kept fun g e => hk g ((hD g).2 (.inr (.inr e)))⟩, h4, h5.mono hB, h6, by omega, by omega, h9⟩, hD⟩
theorem Side.tc (h : Side x k pp N B D s) : x.cell? ⟨pp, 0, none⟩ = some (.pointer (s.map fun p => ⟨p, 0, none⟩)) := by
  cases s with
  | none => exact h.1
  | some p =>
    obtain ⟨b, n, V, L, room, wt, q, v, P, T, ⟨⟨h1, -⟩, -⟩, -⟩ := h
    rw [cell_of_row _ _ _ _ _ _ h1]; rfl
/-- a run of a law: two sides, the book -/
structure X2D (late : Bool) (w x : World) (k a1 a2 : Nat) (s1 s2 : Option Nat) (N B c : Nat) (D1 D2 U : Nat → Prop) : Prop where
  d1 : Side x k a1 N B D1 s1
  d2 : Side x k a2 N B D2 s2
  bk : BkB late x k U c
  u1 : ∀ g, D1 g → ¬ U g
  u2 : ∀ g, D2 g → ¬ U g
  ne : ∀ g, D1 g → ¬ D2 g
  l1 : ∀ g, D1 g → w.heap.size ≤ g
  l2 : ∀ g, D2 g → w.heap.size ≤ g
  lu : ∀ g, U g → w.heap.size ≤ g
  bel : Below w.heap.size w x
def X2 (late : Bool) (w x : World) (k a1 a2 : Nat) (s1 s2 : Option Nat) (N c : Nat) : Prop := ∃ D1 D2 U, X2D late w x k a1 a2 s1 s2 N N c D1 D2 U
theorem X2.swap (h : X2 late w x k a1 a2 s1 s2 N c) : X2 late w x k a2 a1 s2 s1 N c := by
  obtain ⟨D1, D2, U, h⟩ := h
  exact ⟨D2, D1, U, h.d2, h.d1, h.bk, h.u2, h.u1, fun g e e2 => h.ne g e2 e, h.l2, h.l1, h.lu, h.bel⟩
theorem X2.bel (h : X2 late w x k a1 a2 s1 s2 N c) : Below w.heap.size w x := by
  obtain ⟨D1, D2, U, h⟩ := h
  exact h.bel
theorem X2.below (h : X2 late w x k a1 a2 s1 s2 N c) (hb : Below x.heap.size x y) : X2 late w y k a1 a2 s1 s2 N c := by
  obtain ⟨D1, D2, U, h⟩ := h
  exact ⟨D1, D2, U, h.d1.kept (fun g e => hb.block g (h.d1.lt g e)) (Nat.le_refl _) (Nat.le_refl _), h.d2.kept (fun g e => hb.block g (h.d2.lt g e)) (Nat.le_refl _) (Nat.le_refl _), h.bk.below hb, h.u1, h.u2, h.ne, h.l1, h.l2, h.lu, h.bel.trans (hb.mono h.bel.size)⟩
theorem X2.more (h : X2 late w x k a1 a2 s1 s2 N c) (hN : N ≤ N') (hc : c ≤ c') : X2 late w x k a1 a2 s1 s2 N' c' := by
  obtain ⟨D1, D2, U, h⟩ := h
  exact ⟨D1, D2, U, h.d1.kept (fun g e => rfl) hN hN, h.d2.kept (fun g e => rfl) hN hN, h.bk.more hc, h.u1, h.u2, h.ne, h.l1, h.l2, h.lu, h.bel⟩
theorem X2.t1 (h : X2 late w x k a1 a2 s1 s2 N c) : x.cell? ⟨a1, 0, none⟩ = some (.pointer (s1.map fun p => ⟨p, 0, none⟩)) := by
  obtain ⟨D1, D2, U, h⟩ := h
  exact h.d1.tc
/-- with an operation in a box g -/
def XB (late : Bool) (w x : World) (k a1 a2 : Nat) (s1 s2 : Option Nat) (N c g : Nat) (oc : Array Value) : Prop := ∃ D1 D2 U, X2D late w x k a1 a2 s1 s2 N N c D1 D2 U ∧ x.heap[g]? = some (.cells oc 36 (0, 0)) ∧ (∀ h, D1 h → h ≠ g) ∧ (∀ h, D2 h → h ≠ g) ∧ ∀ h, U h → h ≠ g
theorem X2.box (h : X2 late w x k a1 a2 s1 s2 N c) (oc : Array Value) : XB late w (x.alloc (.cells oc 36)) k a1 a2 s1 s2 N c x.heap.size oc := by
  obtain ⟨D1, D2, U, h⟩ := h
  have hb := (Below.refl x.heap.size x).alloc (Nat.le_refl _) (.cells oc 36)
  refine ⟨D1, D2, U, ⟨h.d1.kept (fun g e => hb.block g (h.d1.lt g e)) (Nat.le_refl _) (Nat.le_refl _), h.d2.kept (fun g e => hb.block g (h.d2.lt g e)) (Nat.le_refl _) (Nat.le_refl _), h.bk.below hb, h.u1, h.u2, h.ne, h.l1, h.l2, h.lu, h.bel.trans (hb.mono h.bel.size)⟩, Go.heap_alloc_new x _, fun g e => ?_, fun g e => ?_, fun g e => ?_⟩
  · have := h.d1.lt g e; omega
  · have := h.d2.lt g e; omega
  · have := h.bk.lt g e; omega
variable {g : Nat} {oc : Array Value}
theorem XB.x2 (h : XB late w x k a1 a2 s1 s2 N c g oc) : X2 late w x k a1 a2 s1 s2 N c := by
  obtain ⟨D1, D2, U, h, -⟩ := h
  exact ⟨D1, D2, U, h⟩
theorem XB.swap (h : XB late w x k a1 a2 s1 s2 N c g oc) : XB late w x k a2 a1 s2 s1 N c g oc := by
  obtain ⟨D1, D2, U, h, hg, n1, n2, n3⟩ := h
  exact ⟨D2, D1, U, ⟨h.d2, h.d1, h.bk, h.u2, h.u1, fun g e e2 => h.ne g e2 e, h.l2, h.l1, h.lu, h.bel⟩, hg, n2, n1, n3⟩
theorem XB.below (h : XB late w x k a1 a2 s1 s2 N c g oc) (hb : Below x.heap.size x y) : XB late w y k a1 a2 s1 s2 N c g oc := by
  obtain ⟨D1, D2, U, h, hg, n1, n2, n3⟩ := h
  exact ⟨D1, D2, U, ⟨h.d1.kept (fun g e => hb.block g (h.d1.lt g e)) (Nat.le_refl _) (Nat.le_refl _), h.d2.kept (fun g e => hb.block g (h.d2.lt g e)) (Nat.le_refl _) (Nat.le_refl _), h.bk.below hb, h.u1, h.u2, h.ne, h.l1, h.l2, h.lu, h.bel.trans (hb.mono h.bel.size)⟩, (hb.block g (Array.getElem?_eq_some_iff.1 hg).1).trans hg, n1, n2, n3⟩
theorem XB.o (h : XB late w x k a1 a2 s1 s2 N c g oc) (i : Nat) : x.cell? ⟨g, i, none⟩ = oc[i]? := by
  obtain ⟨D1, D2, U, h, hg, -⟩ := h
  exact cell_of_row _ _ _ _ _ _ hg
theorem XB.t1 (h : XB late w x k a1 a2 s1 s2 N c g oc) : x.cell? ⟨a1, 0, none⟩ = some (.pointer (s1.map fun p => ⟨p, 0, none⟩)) := h.x2.t1
/-- a step of the first side -/
theorem XB.step {p : Nat} (h : XB late w x k a1 a2 (some p) s2 N c g oc) (hN : N ≤ 8000000) (hc : c ≤ 90000000) (kind : Int) (snd : Bool) (e md o : Int) : Calls Try.prog 10 #[.pointer (some ⟨a1, 0, none⟩), .agg (opRow kind snd e md o)] x fun e' y => e' = .returned (.bool true) ∧ XB late w y k a1 a2 (some p) s2 (N + 1) (c + 1) g oc := by
  obtain ⟨D1, D2, U, h, hg, n1, n2, n3⟩ := h
  have hgl := (Array.getElem?_eq_some_iff.1 hg).1
  obtain ⟨b, n, V, L, room, wt, q, v, P, T, ⟨⟨h1, h2, h3⟩, h4, h5, h6, h7, h8, h9⟩, hD⟩ := h.d1
  have hs := h.bel.size
  refine (stp_any ⟨h1, h2, h3, h.bk, fun g e => h.u1 g ((hD g).2 e), h4, h5, h6, h7, h8, h9⟩ hN hN hc kind snd e md o).mono ?_
  rintro e' y ⟨rfl, L', wt', w1, w2, V', v', P', T', U', ⟨r1, r2, r3⟩, ⟨r4, r5, r6⟩, r7, r8, r9, r10, r11⟩
  have hnew : ∀ g, DU a1 p b n V' q v' g → D1 g ∨ x.heap.size ≤ g := fun g e => (r10 g e).imp (fun e => (hD g).2 e) id
  refine ⟨rfl, DU a1 p b n V' q v', D2, U', ⟨⟨b, n, V', L', room, wt', q, v', P', T', ⟨⟨r1, r2, r3⟩, r4, w1, w2, r5, r6, h9⟩, fun g => Iff.rfl⟩, h.d2.kept (fun g e => r8.keep g (h.d2.lt g e) ?_) (Nat.le_succ N) (Nat.le_succ N), r7, r11, fun g e e2 => ?_, fun g e e2 => ?_, fun g e => ?_, h.l2, fun g e => ?_, h.bel.trans (r8.below hs fun g e => ?_)⟩, (r8.keep g hgl ?_).trans hg, fun h' e => ?_, n2, fun h' e => ?_⟩
  · rintro (e2 | e2)
    · exact h.ne g ((hD g).2 e2) e
    · exact h.u2 g e e2
  · rcases r9 g e2 with e3 | e3
    · exact h.u2 g e e3
    · have := h.d2.lt g e; omega
  · rcases hnew g e with e3 | e3
    · exact h.ne g e3 e2
    · have := h.d2.lt g e2; omega
  · rcases hnew g e with e3 | e3
    · exact h.l1 g e3
    · omega
  · rcases r9 g e with e3 | e3
    · exact h.lu g e3
    · omega
  · rcases e with e | e
    · exact h.l1 g ((hD g).2 e)
    · exact h.lu g e
  · rintro (e2 | e2)
    · exact n1 g ((hD g).2 e2) rfl
    · exact n3 g e2 rfl
  · rcases hnew h' e with e3 | e3
    · exact n1 h' e3
    · omega
  · rcases r9 h' e with e3 | e3
    · exact n3 h' e3
    · omega
theorem XB.step1 {p : Nat} (h : XB late w x k a1 a2 s1 s2 N c g oc) (hs : s1 = some p) (hN : N ≤ 8000000) (hc : c ≤ 90000000) (kind : Int) (snd : Bool) (e md o : Int) : Calls Try.prog 10 #[.pointer (some ⟨a1, 0, none⟩), .agg (opRow kind snd e md o)] x fun e' y => e' = .returned (.bool true) ∧ XB late w y k a1 a2 s1 s2 (N + 1) (c + 1) g oc := by
  subst hs
  exact h.step hN hc kind snd e md o
theorem XB.step2 {p : Nat} (h : XB late w x k a1 a2 s1 s2 N c g oc) (hs : s2 = some p) (hN : N ≤ 8000000) (hc : c ≤ 90000000) (kind : Int) (snd : Bool) (e md o : Int) : Calls Try.prog 10 #[.pointer (some ⟨a2, 0, none⟩), .agg (opRow kind snd e md o)] x fun e' y => e' = .returned (.bool true) ∧ XB late w y k a1 a2 s1 s2 (N + 1) (c + 1) g oc :=
  (h.swap.step1 hs hN hc kind snd e md o).mono fun e' y hy => ⟨hy.1, hy.2.swap⟩
theorem XB.ocells {kind : Int} {snd : Bool} {e md o : Int} (h : XB late w x k a1 a2 s1 s2 N c g #[.int .i64 kind, .bool snd, .int .i64 e, .int .i64 md, .int .i64 o]) : x.cell? ⟨g, 0, none⟩ = some (.int .i64 kind) ∧ x.cell? ⟨g, 1, none⟩ = some (.bool snd) ∧ x.cell? ⟨g, 2, none⟩ = some (.int .i64 e) ∧ x.cell? ⟨g, 3, none⟩ = some (.int .i64 md) ∧ x.cell? ⟨g, 4, none⟩ = some (.int .i64 o) := ⟨h.o 0, h.o 1, h.o 2, h.o 3, h.o 4⟩
theorem XB.kept (h : XB late w x k a1 a2 s1 s2 N c g oc) (hc : c ≤ 90000000) : Calls Try.prog 11 #[.pointer (some ⟨k, 0, none⟩)] x fun e' y => e' = .returned (.bool true) ∧ XB late w y k a1 a2 s1 s2 N c g oc := by
  have h0 := h
  obtain ⟨D1, D2, U, h, -⟩ := h
  obtain ⟨bv, raw, was, ys, vs, us, hb, hl, -⟩ := h.bk
  refine (kept_any hb.s (by omega)).mono ?_
  rintro e' y ⟨rfl, hq⟩
  exact ⟨rfl, h0.below hq.2⟩
theorem XB.more (h : XB late w x k a1 a2 s1 s2 N c g oc) (hN : N ≤ N') (hc : c ≤ c') : XB late w x k a1 a2 s1 s2 N' c' g oc := by
  obtain ⟨D1, D2, U, h, hr⟩ := h
  exact ⟨D1, D2, U, ⟨h.d1.kept (fun g e => rfl) hN hN, h.d2.kept (fun g e => rfl) hN hN, h.bk.more hc, h.u1, h.u2, h.ne, h.l1, h.l2, h.lu, h.bel⟩, hr⟩
theorem X2.settled (h : X2 true w x k a1 a2 s1 s2 N c) (hc : c ≤ 90000000) : Calls Try.prog 12 #[.pointer (some ⟨k, 0, none⟩)] x fun e' y => e' = .returned (.bool true) ∧ Below w.heap.size w y := by
  obtain ⟨D1, D2, U, h⟩ := h
  obtain ⟨bv, raw, was, ys, vs, us, hb, hl, hy⟩ := h.bk
  obtain rfl := hy rfl
  refine (settled_any hb h.lu (by simp at hl; omega)).mono ?_
  rintro e' y ⟨rfl, hq⟩
  exact ⟨rfl, h.bel.trans hq⟩
end
end Go.Proofs.Ytijfnacplikibab
namespace Go.Proofs.Ytijfnacplikibab
open Go.RowKit
set_option linter.unusedVariables false
set_option linter.unusedSimpArgs false
set_option maxRecDepth 20000

set_option maxHeartbeats 1000000 in
theorem made_no2 (w : World) (kb : Nat) (a b : Int) (h : okN a b = false) : Calls Try.prog 9 #[.agg #[.int .i64 a, .int .i64 b], .pointer (some ⟨kb, 0, none⟩)] w fun e w' => ∃ pp, e = .returned (.tuple #[.pointer (some ⟨pp, 0, none⟩), .bool true]) ∧ w'.cell? ⟨pp, 0, none⟩ = some (.pointer none) ∧ Below w.heap.size w w' ∧ w.heap.size ≤ pp := by
  have HK := hide fun y => kNew_no y a b h
  have HR := hide fun y => rNew_no y a b h
  clear h
  go_enter Try.func9, Try.ntmps9
  go_wp2_with (first
    | (go_at_call 13; refine (HK.out _).mono ?_; rintro e' w2 ⟨rfl, hw2⟩; subst hw2; clear HK)
    | (go_at_call 14; refine (HR.out _).mono ?_; rintro e' w2 ⟨rfl, hw2⟩; subst hw2; clear HR))
  go_quiet (fail)
  go_wp2_with fail
  go_ret2
  exact ⟨_, rfl, by simp [go_sem], (((Below.refl _ w).alloc (Nat.le_refl _) _).alloc (by simp) _).trans ⟨rfl, rfl, rfl, Nat.le_refl _, fun _ _ => rfl⟩, Nat.le_succ _⟩
set_option maxHeartbeats 1000000 in
theorem made_yes2 (w : World) (k n : Nat) (ws : Int) (h : okN n ws = true) : Calls Try.prog 9 #[.agg #[.int .i64 (n : Int), .int .i64 ws], .pointer (some ⟨k, 0, none⟩)] w fun e w' => ∃ pp p b rb, e = .returned (.tuple #[.pointer (some ⟨pp, 0, none⟩), .bool true]) ∧ w'.heap[pp]? = some (.cells #[.pointer (some ⟨p, 0, none⟩), .pointer (some ⟨rb, 0, none⟩), .pointer (some ⟨k, 0, none⟩)] 40 (0, 0)) ∧ TRep w' p b 0 n nilV nilL ws 0 ∧ w'.heap[rb]? = some (.cells (rRow n ws) 73 (0, 0)) ∧ Below w.heap.size w w' ∧ w.heap.size ≤ p ∧ w.heap.size ≤ pp ∧ w.heap.size ≤ b ∧ w.heap.size ≤ rb := by
  have HK := hide fun y => kNew_yes y n ws h
  have HR := hide fun y => rNew_yes y n ws h
  clear h
  go_enter Try.func9, Try.ntmps9
  go_wp2_with (first
    | (go_at_call 13; refine (HK.out _).mono ?_; rintro e' w2 ⟨p, b, rfl, hT, hB, hlo, hlb⟩; have HLB := hide hlb; clear hlb; have HT := hide hT; have HB := hide hB; have HLO := hide hlo; have HX := hide (two_boxes w w2 _ _ _ _ hB); have m0 : w2.cell? ⟨w.heap.size, 0, none⟩ = some (.int .i64 (n : Int)) := (by rw [cell_of_row _ _ _ _ _ _ HX.out.1]; rfl); have m1 : w2.cell? ⟨w.heap.size, 1, none⟩ = some (.int .i64 ws) := (by rw [cell_of_row _ _ _ _ _ _ HX.out.1]; rfl); have q0 : w2.cell? ⟨w.heap.size + 1, 0, none⟩ = some (.pointer none) := (by rw [cell_of_row _ _ _ _ _ _ HX.out.2]; rfl); have q1 : w2.cell? ⟨w.heap.size + 1, 1, none⟩ = some (.pointer none) := (by rw [cell_of_row _ _ _ _ _ _ HX.out.2]; rfl); have z0 : w2.frozen? ⟨w.heap.size + 1, 0, none⟩ = false := frozen_of_row _ _ _ _ 40 HX.out.2; have z1 : w2.frozen? ⟨w.heap.size + 1, 1, none⟩ = false := frozen_of_row _ _ _ _ 40 HX.out.2; clear hT hB hlo HK)
    | (go_at_call 14; refine (HR.out _).mono ?_; rintro e' w3 ⟨rfl, hw3⟩; have HF := hide (made_tail hw3 HX.out HT.out HB.out HLO.out); have q3 : w3.cell? ⟨w.heap.size + 1, 0, none⟩ = some (.pointer (some ⟨p, 0, none⟩)) := (by rw [cell_of_row _ _ _ _ _ _ HF.out.1]; rfl); have q4 : w3.cell? ⟨w.heap.size + 1, 1, none⟩ = some (.pointer none) := (by rw [cell_of_row _ _ _ _ _ _ HF.out.1]; rfl); have z4 : w3.frozen? ⟨w.heap.size + 1, 1, none⟩ = false := frozen_of_row _ _ _ _ 40 HF.out.1; clear hw3 HR))
  go_quiet (fail)
  go_wp2_with fail
  go_ret2
  obtain ⟨-, f1, f2, f3, f4, f5⟩ := HF.out
  exact ⟨w.heap.size + 1, p, b, w2.heap.size, rfl, f1, f2.kept fun _ _ => rfl, f3, below_drewN f4 _, f5, Nat.le_succ _, by have := HLB.out; simp at this; omega, by have := HB.out.size; simp at this; omega⟩
/-- a new side -/
structure NwS (w x : World) (k pp : Nat) (s : Option Nat) : Prop where
  ex : ∃ D, Side x k pp 0 0 D s ∧ ∀ g, D g → w.heap.size ≤ g
theorem made_any (w : World) (k : Nat) (a b : Int) : Calls Try.prog 9 #[.agg #[.int .i64 a, .int .i64 b], .pointer (some ⟨k, 0, none⟩)] w fun e w' => ∃ pp s, e = .returned (.tuple #[.pointer (some ⟨pp, 0, none⟩), .bool true]) ∧ Below w.heap.size w w' ∧ NwS w w' k pp s := by
  cases h : okN a b with
  | false =>
    refine (made_no2 w k a b h).mono ?_
    rintro e w' ⟨pp, rfl, h1, h2, h3⟩
    exact ⟨pp, none, rfl, h2, ⟨(· = pp), ⟨h1, fun g => Iff.rfl⟩, fun g e => by omega⟩⟩
  | true =>
    obtain ⟨h1, h2, h3, h4⟩ := okN_yes h
    obtain ⟨n, rfl⟩ : ∃ n : Nat, a = (n : Int) := ⟨a.toNat, by omega⟩
    obtain ⟨room, rfl⟩ : ∃ n : Nat, b = (n : Int) := ⟨b.toNat, by omega⟩
    refine (made_yes2 w k n room h).mono ?_
    rintro e w' ⟨pp, p, b, rb, rfl, r1, r2, r3, r4, r5, r6, r7, r8⟩
    refine ⟨pp, some p, rfl, r4, ⟨DU pp p b n nilV rb (.slice none 0 0), ⟨b, n, nilV, nilL, room, 0, rb, .slice none 0 0, [], 0, ⟨⟨r1, r2, ⟨r3, ⟨rfl, .inl ⟨rfl, rfl⟩⟩⟩⟩, ?_, wf_nil n ⟨h3, h4⟩, ok_nil n, by simp, by simp [wtN], by omega⟩, fun g => Iff.rfl⟩, ?_⟩⟩
    · exact ⟨fun e _ => rfl, fun e _ => ⟨[], List.Perm.refl _, List.Pairwise.nil, rfl⟩, fun x hx => by simp at hx, fun x hx => by simp at hx⟩
    · rintro g (e | (e | e | ⟨j, hj, e⟩) | e | e)
      · omega
      · omega
      · omega
      · simp [nilV, Value.ownBlock] at e
      · omega
      · simp [Value.ownBlock] at e
def bkR (late : Bool) : Array Value := #[.slice none 0 0, .bool late, .slice none 0 0, .slice none 0 0]
theorem bk_start {late : Bool} {x : World} {k : Nat} (h : x.heap[k]? = some (.cells (bkR late) 31 (0, 0))) : BkB late x k (· = k) 0 := by
  have hn : ∀ b : Nat, (Value.slice none 0 0).ownBlock ≠ some b := fun b e => by simp [Value.ownBlock] at e
  refine ⟨.slice none 0 0, .slice none 0 0, .slice none 0 0, [], [], [], ⟨⟨h, ⟨rfl, .inl ⟨rfl, rfl⟩⟩, ⟨rfl, .inl ⟨rfl, rfl⟩⟩, ⟨rfl, .inl ⟨rfl, rfl⟩⟩, rfl, fun j u v h1 h2 => by simp at h1, fun j v h1 => by simp at h1⟩, rfl, rfl, fun b e => absurd e (hn b), ?_, ?_, fun b e => absurd e (hn b), fun b e => absurd e (hn b), fun b e => ?_, fun x hx => ?_, fun _ x hx => ?_, fun _ i j x y hx => by simp at hx, fun _ x hx => ?_⟩, Nat.le_refl _, fun _ => rfl⟩
  · rintro b (e | e | ⟨x, hx, e⟩)
    · exact absurd e (hn b)
    · exact absurd e (hn b)
    · simp at hx
  · rintro b rfl
    exact (Array.getElem?_eq_some_iff.1 h).1
  · rcases e with e | e
    · exact absurd e (hn b)
    · exact absurd e (hn b)
  · simp at hx
  · simp at hx
  · simp at hx
theorem X2.start {late : Bool} {w x0 x1 x2 : World} {k a1 a2 : Nat} {s1 s2 : Option Nat} (b0 : Below w.heap.size w x0) (hk : w.heap.size ≤ k) (hrow : x0.heap[k]? = some (.cells (bkR late) 31 (0, 0))) (b1 : Below x0.heap.size x0 x1) (n1 : NwS x0 x1 k a1 s1) (b2 : Below x1.heap.size x1 x2) (n2 : NwS x1 x2 k a2 s2) : X2 late w x2 k a1 a2 s1 s2 0 0 := by
  obtain ⟨D1, d1, l1⟩ := n1.ex
  obtain ⟨D2, d2, l2⟩ := n2.ex
  have hkl := (Array.getElem?_eq_some_iff.1 hrow).1
  have s0 := b0.size
  have s1 := b1.size
  have s2 := b2.size
  refine ⟨D1, D2, (· = k), d1.kept (fun g e => b2.block g (d1.lt g e)) (Nat.le_refl _) (Nat.le_refl _), d2, bk_start ((b2.block k (by omega)).trans ((b1.block k hkl).trans hrow)), fun g e e2 => ?_, fun g e e2 => ?_, fun g e e2 => ?_, fun g e => ?_, fun g e => ?_, fun g e => ?_, (b0.trans (b1.mono s0)).trans (b2.mono (by omega))⟩
  · have := l1 g e; omega
  · have := l2 g e; omega
  · have := d1.lt g e; have := l2 g e2; omega
  · have := l1 g e; omega
  · have := l2 g e; omega
  · omega
end Go.Proofs.Ytijfnacplikibab
namespace Go.Proofs.Ytijfnacplikibab
open Go.RowKit
set_option linter.unusedVariables false
set_option linter.unusedSimpArgs false
set_option maxRecDepth 20000

/-- an operation of the script, in any world that grew out of w -/
theorem ops_in {w : World} {av : Option Addr} {os : List OpV} (hv3 : 0 < os.length → ∃ b off, av = some ⟨b, off, none⟩ ∧ ∀ i (h : i < os.length), (w.cell? ⟨b, off + i * 5, none⟩ = some (.int .i64 os[i].kind) ∧ w.cell? ⟨b, off + i * 5 + 1, none⟩ = some (.bool os[i].snd)) ∧ w.cell? ⟨b, off + i * 5 + 2, none⟩ = some (.int .i64 os[i].ext) ∧ w.cell? ⟨b, off + i * 5 + 3, none⟩ = some (.int .i64 os[i].mode) ∧ w.cell? ⟨b, off + i * 5 + 4, none⟩ = some (.int .i64 os[i].owner)) :
    ∀ x, Below w.heap.size w x → ∀ i, i < os.length → ∃ g off, av = some ⟨g, off, none⟩ ∧ (x.cell? ⟨g, off + i * 5, none⟩ = some (.int .i64 (os.getD i default).kind) ∧ x.cell? ⟨g, off + i * 5 + 1, none⟩ = some (.bool (os.getD i default).snd)) ∧ x.cell? ⟨g, off + i * 5 + 2, none⟩ = some (.int .i64 (os.getD i default).ext) ∧ x.cell? ⟨g, off + i * 5 + 3, none⟩ = some (.int .i64 (os.getD i default).mode) ∧ x.cell? ⟨g, off + i * 5 + 4, none⟩ = some (.int .i64 (os.getD i default).owner) := fun x hb' i hi => by
  obtain ⟨g, off, rfl, hc⟩ := hv3 (by omega)
  have hlt := World.block_lt_of_cell? w _ (hc 0 (by omega)).1.1
  obtain ⟨⟨c0, c1⟩, c2, c3, c4⟩ := hc i hi
  rw [show os.getD i default = os[i] by simp [List.getD, hi]]
  exact ⟨g, off, rfl, ⟨(below_cell hb' hlt _).trans c0, (below_cell hb' hlt _).trans c1⟩, (below_cell hb' hlt _).trans c2, (below_cell hb' hlt _).trans c3, (below_cell hb' hlt _).trans c4⟩
/-- pass's two boxes -/
theorem pass_boxes {w x : World} {a b c d : Int} (h : Below ((w.alloc (.cells #[.int .i64 a, .int .i64 b] 23)).alloc (.cells #[.int .i64 c, .int .i64 d] 23)).heap.size ((w.alloc (.cells #[.int .i64 a, .int .i64 b] 23)).alloc (.cells #[.int .i64 c, .int .i64 d] 23)) x) : x.cell? ⟨w.heap.size + 1, 0, none⟩ = some (.int .i64 c) ∧ x.cell? ⟨w.heap.size + 1, 1, none⟩ = some (.int .i64 d) := by
  have hg := (two_boxes w x _ _ _ _ h).2
  exact ⟨by rw [cell_of_row _ _ _ _ _ _ hg]; rfl, by rw [cell_of_row _ _ _ _ _ _ hg]; rfl⟩
set_option maxHeartbeats 1000000 in
theorem pass_any {late : Bool} (w0 w : World) (hb0 : Below w0.heap.size w0 w) {k : Nat} (hk : w0.heap.size ≤ k) (hrow : w.heap[k]? = some (.cells (bkR late) 31 (0, 0))) (a b c d lo hi : Int) (v : Value) (os : List OpV) (hv : OSl w0 v os) (hl : os.length ≤ 1048576) :
    Calls Try.prog 8 #[.agg #[.int .i64 a, .int .i64 b], .agg #[.int .i64 c, .int .i64 d], v, .int .i64 lo, .int .i64 hi, .pointer (some ⟨k, 0, none⟩)] w fun e' y => e' = .returned (.bool true) ∧ Below w0.heap.size w0 y := by
  have hb1 := ((Below.refl w.heap.size w).alloc (Nat.le_refl _) (.cells #[.int .i64 a, .int .i64 b] 23)).alloc (by simp) (.cells #[.int .i64 c, .int .i64 d] 23)
  have hrow1 := (hb1.block k (Array.getElem?_eq_some_iff.1 hrow).1).trans hrow
  have HB := hide (hb0.trans (hb1.mono hb0.size))
  have HROW := hide hrow1
  have k1 : ((w.alloc (.cells #[.int .i64 a, .int .i64 b] 23)).alloc (.cells #[.int .i64 c, .int .i64 d] 23)).cell? ⟨k, 1, none⟩ = some (.bool late) := by rw [cell_of_row _ _ _ _ _ _ hrow1]; rfl
  have HM := hide fun x a b => made_any x k a b
  have HST := hide fun x1 x2 a1 a2 s1 s2 b1 n1 b2 n2 => X2.start (late := late) (x1 := x1) (x2 := x2) (a1 := a1) (a2 := a2) (s1 := s1) (s2 := s2) HB.out hk hrow1 b1 n1 b2 n2
  have HBX := hide fun x h => pass_boxes (w := w) (x := x) (a := a) (b := b) (c := c) (d := d) h
  obtain ⟨av, cv, rfl, hv1, hv2, hv3⟩ := hv
  have HOS := hide (ops_in hv3)
  clear hv3 hb1 hrow1 hrow hk hb0 HB HROW
  generalize hN : os.length = N at *
  clear hN
  unfold maxLen at hv2
  go_enter Try.func8, Try.ntmps8
  go_wp2_with (go_at_call 9; (with_reducible refine (HM.out _ a b).mono ?_); rintro e' x1 ⟨a1, s1, rfl, hb1, hn1⟩; have HB1 := hide hb1; have HN1 := hide hn1; obtain ⟨c0, c1⟩ := HBX.out _ hb1; clear hb1 hn1 HBX)
  go_wp2_with (go_at_call 9; (with_reducible refine (HM.out _ c d).mono ?_); rintro e' x2 ⟨a2, s2, rfl, hb2, hn2⟩; have HX := hide (HST.out _ _ _ _ _ _ HB1.out HN1.out hb2 hn2); clear HM HST hb2 hn2 HB1 HN1)
  go_loopw [15, 18] (fun okv x wr => ∃ i : Nat, i ≤ N ∧ okv = .bool true ∧ x = .int .i64 (i : Int) ∧ X2 late w0 wr k a1 a2 s1 s2 (2 * i) (2 * i)) (fun _ x _ => N - (intOf x).toNat)
  case atStart => exact ⟨0, Nat.zero_le _, rfl, rfl, HX.out⟩
  case round =>
    obtain ⟨i, hi, rfl, rfl, hX⟩ := hrel
    have HX1 := hide hX
    clear hX HX k1 c0 c1
    by_cases hlt : i < N
    · obtain ⟨g, off, rfl, ⟨e0, e1⟩, e2, e3, e4⟩ := HOS.out _ HX1.out.bel i hlt
      generalize os.getD i default = s at *
      obtain ⟨kind, snd, ee, md, oo⟩ := s
      dsimp only at e0 e1 e2 e3 e4
      have hii : 0 ≤ (i : Int) ∧ (i : Int) < (N : Int) := ⟨by omega, by omega⟩
      have HB := hide (HX1.out.box #[.int .i64 kind, .bool snd, .int .i64 ee, .int .i64 md, .int .i64 oo])
      have t1 := HB.out.t1
      have t2 := HB.out.swap.t1
      have HNX : Hid (X2 late w0 (wr.alloc (.cells #[.int .i64 kind, .bool snd, .int .i64 ee, .int .i64 md, .int .i64 oo] 36)) k a1 a2 s1 s2 (2 * (i + 1)) (2 * (i + 1))) := hide (HB.out.x2.more (by omega) (by omega))
      have HOC := hide fun N c x (hx : XB late w0 x k a1 a2 s1 s2 N c wr.heap.size #[.int .i64 kind, .bool snd, .int .i64 ee, .int .i64 md, .int .i64 oo]) => hx.ocells
      have HKE := hide fun N c x (hx : XB late w0 x k a1 a2 s1 s2 N c wr.heap.size #[.int .i64 kind, .bool snd, .int .i64 ee, .int .i64 md, .int .i64 oo]) hc => hx.kept hc
      have HS1 := hide fun p (hs : s1 = some p) N c x (hx : XB late w0 x k a1 a2 s1 s2 N c wr.heap.size #[.int .i64 kind, .bool snd, .int .i64 ee, .int .i64 md, .int .i64 oo]) hN hc => hx.step1 hs hN hc kind snd ee md oo
      have HS2 := hide fun p (hs : s2 = some p) N c x (hx : XB late w0 x k a1 a2 s1 s2 N c wr.heap.size #[.int .i64 kind, .bool snd, .int .i64 ee, .int .i64 md, .int .i64 oo]) hN hc => hx.step2 hs hN hc kind snd ee md oo
      unfold opRow at HS1 HS2
      cases snd
      · -- false
        clear t2 HS2
        obtain hs | ⟨p1, hs⟩ : s1 = none ∨ ∃ p, s1 = some p := by cases s1 <;> simp
        · rw [hs] at t1
          dsimp only [Option.map] at t1
          clear HOC HKE HS1 HB
          go_wp2_with fail
          go_roundw
          case rel => exact ⟨i + 1, by omega, rfl, by go_num, HNX.out⟩
          case measure => simp [intOf]; omega
        · rw [hs] at t1
          dsimp only [Option.map] at t1
          cases late with
          | false =>
            go_wp2_with (go_at_call 10; (with_reducible refine (HS1.out _ hs _ _ _ HB.out (by omega) (by omega)).mono ?_); rintro e' y1 ⟨rfl, hy⟩; have HB1 := hide hy; obtain ⟨u0, u1, u2, u3, u4⟩ := HOC.out _ _ _ hy; clear hy HB)
            go_wp2_with (go_at_call 11; (with_reducible refine (HKE.out _ _ _ HB1.out (by omega)).mono ?_); rintro e' y3 ⟨rfl, hy⟩; have HB3 := hide hy.x2; obtain ⟨v0, v1, v2, v3, v4⟩ := HOC.out _ _ _ hy; clear hy HB1)
            go_roundw
            case rel => exact ⟨i + 1, by omega, rfl, by go_num, HB3.out.more (by omega) (by omega)⟩
            case measure => simp [intOf]; omega
          | true =>
            by_cases k5 : kind = 5
            · subst k5
              go_wp2_with (go_at_call 10; (with_reducible refine (HS1.out _ hs _ _ _ HB.out (by omega) (by omega)).mono ?_); rintro e' y1 ⟨rfl, hy⟩; have HB1 := hide hy; obtain ⟨u0, u1, u2, u3, u4⟩ := HOC.out _ _ _ hy; clear hy HB)
              go_wp2_with (go_at_call 10; (with_reducible refine (HS1.out _ hs _ _ _ HB1.out (by omega) (by omega)).mono ?_); rintro e' y2 ⟨rfl, hy⟩; have HB2 := hide hy; obtain ⟨q0, q1, q2, q3, q4⟩ := HOC.out _ _ _ hy; clear hy HB1)
              go_wp2_with (go_at_call 11; (with_reducible refine (HKE.out _ _ _ HB2.out (by omega)).mono ?_); rintro e' y3 ⟨rfl, hy⟩; have HB3 := hide hy.x2; obtain ⟨v0, v1, v2, v3, v4⟩ := HOC.out _ _ _ hy; clear hy HB2)
              go_roundw
              case rel => exact ⟨i + 1, by omega, rfl, by go_num, HB3.out.more (by omega) (by omega)⟩
              case measure => simp [intOf]; omega
            · have z5 : (kind == 5) = false := by simpa using k5
              by_cases k6 : kind = 6
              · subst k6
                clear z5 k5
                go_wp2_with (go_at_call 10; (with_reducible refine (HS1.out _ hs _ _ _ HB.out (by omega) (by omega)).mono ?_); rintro e' y1 ⟨rfl, hy⟩; have HB1 := hide hy; obtain ⟨u0, u1, u2, u3, u4⟩ := HOC.out _ _ _ hy; clear hy HB)
                go_wp2_with (go_at_call 10; (with_reducible refine (HS1.out _ hs _ _ _ HB1.out (by omega) (by omega)).mono ?_); rintro e' y2 ⟨rfl, hy⟩; have HB2 := hide hy; obtain ⟨q0, q1, q2, q3, q4⟩ := HOC.out _ _ _ hy; clear hy HB1)
                go_wp2_with (go_at_call 11; (with_reducible refine (HKE.out _ _ _ HB2.out (by omega)).mono ?_); rintro e' y3 ⟨rfl, hy⟩; have HB3 := hide hy.x2; obtain ⟨v0, v1, v2, v3, v4⟩ := HOC.out _ _ _ hy; clear hy HB2)
                go_roundw
                case rel => exact ⟨i + 1, by omega, rfl, by go_num, HB3.out.more (by omega) (by omega)⟩
                case measure => simp [intOf]; omega
              · have z6 : (kind == 6) = false := by simpa using k6
                clear k5 k6
                go_wp2_with (go_at_call 10; (with_reducible refine (HS1.out _ hs _ _ _ HB.out (by omega) (by omega)).mono ?_); rintro e' y1 ⟨rfl, hy⟩; have HB1 := hide hy; obtain ⟨u0, u1, u2, u3, u4⟩ := HOC.out _ _ _ hy; clear hy HB)
                go_wp2_with (go_at_call 11; (with_reducible refine (HKE.out _ _ _ HB1.out (by omega)).mono ?_); rintro e' y3 ⟨rfl, hy⟩; have HB3 := hide hy.x2; obtain ⟨v0, v1, v2, v3, v4⟩ := HOC.out _ _ _ hy; clear hy HB1)
                go_roundw
                case rel => exact ⟨i + 1, by omega, rfl, by go_num, HB3.out.more (by omega) (by omega)⟩
                case measure => simp [intOf]; omega
      · -- true
        clear t1 HS1
        obtain hs | ⟨p1, hs⟩ : s2 = none ∨ ∃ p, s2 = some p := by cases s2 <;> simp
        · rw [hs] at t2
          dsimp only [Option.map] at t2
          clear HOC HKE HS2 HB
          go_wp2_with fail
          go_roundw
          case rel => exact ⟨i + 1, by omega, rfl, by go_num, HNX.out⟩
          case measure => simp [intOf]; omega
        · rw [hs] at t2
          dsimp only [Option.map] at t2
          cases late with
          | false =>
            go_wp2_with (go_at_call 10; (with_reducible refine (HS2.out _ hs _ _ _ HB.out (by omega) (by omega)).mono ?_); rintro e' y1 ⟨rfl, hy⟩; have HB1 := hide hy; obtain ⟨u0, u1, u2, u3, u4⟩ := HOC.out _ _ _ hy; clear hy HB)
            go_wp2_with (go_at_call 11; (with_reducible refine (HKE.out _ _ _ HB1.out (by omega)).mono ?_); rintro e' y3 ⟨rfl, hy⟩; have HB3 := hide hy.x2; obtain ⟨v0, v1, v2, v3, v4⟩ := HOC.out _ _ _ hy; clear hy HB1)
            go_roundw
            case rel => exact ⟨i + 1, by omega, rfl, by go_num, HB3.out.more (by omega) (by omega)⟩
            case measure => simp [intOf]; omega
          | true =>
            by_cases k5 : kind = 5
            · subst k5
              go_wp2_with (go_at_call 10; (with_reducible refine (HS2.out _ hs _ _ _ HB.out (by omega) (by omega)).mono ?_); rintro e' y1 ⟨rfl, hy⟩; have HB1 := hide hy; obtain ⟨u0, u1, u2, u3, u4⟩ := HOC.out _ _ _ hy; clear hy HB)
              go_wp2_with (go_at_call 10; (with_reducible refine (HS2.out _ hs _ _ _ HB1.out (by omega) (by omega)).mono ?_); rintro e' y2 ⟨rfl, hy⟩; have HB2 := hide hy; obtain ⟨q0, q1, q2, q3, q4⟩ := HOC.out _ _ _ hy; clear hy HB1)
              go_wp2_with (go_at_call 11; (with_reducible refine (HKE.out _ _ _ HB2.out (by omega)).mono ?_); rintro e' y3 ⟨rfl, hy⟩; have HB3 := hide hy.x2; obtain ⟨v0, v1, v2, v3, v4⟩ := HOC.out _ _ _ hy; clear hy HB2)
              go_roundw
              case rel => exact ⟨i + 1, by omega, rfl, by go_num, HB3.out.more (by omega) (by omega)⟩
              case measure => simp [intOf]; omega
            · have z5 : (kind == 5) = false := by simpa using k5
              by_cases k6 : kind = 6
              · subst k6
                clear z5 k5
                go_wp2_with (go_at_call 10; (with_reducible refine (HS2.out _ hs _ _ _ HB.out (by omega) (by omega)).mono ?_); rintro e' y1 ⟨rfl, hy⟩; have HB1 := hide hy; obtain ⟨u0, u1, u2, u3, u4⟩ := HOC.out _ _ _ hy; clear hy HB)
                go_wp2_with (go_at_call 10; (with_reducible refine (HS2.out _ hs _ _ _ HB1.out (by omega) (by omega)).mono ?_); rintro e' y2 ⟨rfl, hy⟩; have HB2 := hide hy; obtain ⟨q0, q1, q2, q3, q4⟩ := HOC.out _ _ _ hy; clear hy HB1)
                go_wp2_with (go_at_call 11; (with_reducible refine (HKE.out _ _ _ HB2.out (by omega)).mono ?_); rintro e' y3 ⟨rfl, hy⟩; have HB3 := hide hy.x2; obtain ⟨v0, v1, v2, v3, v4⟩ := HOC.out _ _ _ hy; clear hy HB2)
                go_roundw
                case rel => exact ⟨i + 1, by omega, rfl, by go_num, HB3.out.more (by omega) (by omega)⟩
                case measure => simp [intOf]; omega
              · have z6 : (kind == 6) = false := by simpa using k6
                clear k5 k6
                go_wp2_with (go_at_call 10; (with_reducible refine (HS2.out _ hs _ _ _ HB.out (by omega) (by omega)).mono ?_); rintro e' y1 ⟨rfl, hy⟩; have HB1 := hide hy; obtain ⟨u0, u1, u2, u3, u4⟩ := HOC.out _ _ _ hy; clear hy HB)
                go_wp2_with (go_at_call 11; (with_reducible refine (HKE.out _ _ _ HB1.out (by omega)).mono ?_); rintro e' y3 ⟨rfl, hy⟩; have HB3 := hide hy.x2; obtain ⟨v0, v1, v2, v3, v4⟩ := HOC.out _ _ _ hy; clear hy HB1)
                go_roundw
                case rel => exact ⟨i + 1, by omega, rfl, by go_num, HB3.out.more (by omega) (by omega)⟩
                case measure => simp [intOf]; omega
    · have hnl : ¬ (i : Int) < (N : Int) := by omega
      cases late with
      | false =>
        go_wp2_with fail
        go_ret
        exact ⟨rfl, HX1.out.bel⟩
      | true =>
        have HSE := hide (HX1.out.settled (by omega))
        go_wp2_with (go_at_call 12; (with_reducible refine HSE.out.mono ?_); rintro e' y1 ⟨rfl, hy⟩; have HB1 := hide hy; clear hy)
        go_ret
        exact ⟨rfl, HB1.out⟩
end Go.Proofs.Ytijfnacplikibab
namespace Go.Proofs.Ytijfnacplikibab
open Go.RowKit
set_option linter.unusedVariables false
set_option linter.unusedSimpArgs false
set_option maxRecDepth 20000

theorem pass_boxes0 {w x : World} {a b c d : Int} (h : Below ((w.alloc (.cells #[.int .i64 a, .int .i64 b] 23)).alloc (.cells #[.int .i64 c, .int .i64 d] 23)).heap.size ((w.alloc (.cells #[.int .i64 a, .int .i64 b] 23)).alloc (.cells #[.int .i64 c, .int .i64 d] 23)) x) : x.cell? ⟨w.heap.size, 0, none⟩ = some (.int .i64 a) ∧ x.cell? ⟨w.heap.size, 1, none⟩ = some (.int .i64 b) := by
  have hg := (two_boxes w x _ _ _ _ h).1
  exact ⟨by rw [cell_of_row _ _ _ _ _ _ hg]; rfl, by rw [cell_of_row _ _ _ _ _ _ hg]; rfl⟩
theorem pass_new {w0 y : World} {late : Bool} (hb : Below w0.heap.size w0 y) : Below w0.heap.size w0 (y.alloc (.cells (bkR late) 31)) ∧ w0.heap.size ≤ y.heap.size ∧ (y.alloc (.cells (bkR late) 31)).heap[y.heap.size]? = some (.cells (bkR late) 31 (0, 0)) :=
  ⟨hb.alloc hb.size _, hb.size, Go.heap_alloc_new y _⟩
set_option maxHeartbeats 1000000 in
theorem play_any (w : World) (a b c d lo hi : Int) (v : Value) (os : List OpV) (hv : OSl w v os) (hl : os.length ≤ 1048576) :
    Calls Try.prog 7 #[.agg #[.int .i64 a, .int .i64 b], .agg #[.int .i64 c, .int .i64 d], v, .int .i64 lo, .int .i64 hi] w fun e' y => e' = .returned (.bool true) ∧ Below w.heap.size w y := by
  have hb1 := ((Below.refl w.heap.size w).alloc (Nat.le_refl _) (.cells #[.int .i64 a, .int .i64 b] 23)).alloc (by simp) (.cells #[.int .i64 c, .int .i64 d] 23)
  have HBE := hide hb1
  have HP := hide fun (late : Bool) x k hb hk hrow => pass_any (late := late) ((w.alloc (.cells #[.int .i64 a, .int .i64 b] 23)).alloc (.cells #[.int .i64 c, .int .i64 d] 23)) x hb (k := k) hk hrow a b c d lo hi v os (hv.below hb1) hl
  have HB0 := hide fun x h => pass_boxes0 (w := w) (x := x) (a := a) (b := b) (c := c) (d := d) h
  have HB1 := hide fun x h => pass_boxes (w := w) (x := x) (a := a) (b := b) (c := c) (d := d) h
  have HNW := hide fun (late : Bool) y h => pass_new (w0 := ((w.alloc (.cells #[.int .i64 a, .int .i64 b] 23)).alloc (.cells #[.int .i64 c, .int .i64 d] 23))) (y := y) (late := late) h
  have HRF := hide (Below.refl ((w.alloc (.cells #[.int .i64 a, .int .i64 b] 23)).alloc (.cells #[.int .i64 c, .int .i64 d] 23)).heap.size ((w.alloc (.cells #[.int .i64 a, .int .i64 b] 23)).alloc (.cells #[.int .i64 c, .int .i64 d] 23)))
  obtain ⟨N1, N2, N3⟩ := HNW.out false _ HRF.out
  have hE : ((w.alloc (.cells #[.int .i64 a, .int .i64 b] 23)).alloc (.cells #[.int .i64 c, .int .i64 d] 23)).heap.size = w.heap.size + 1 + 1 := by simp
  rw [hE] at N3
  have HC1 := hide (HP.out false _ (w.heap.size + 1 + 1) N1 (Nat.le_of_eq hE) N3)
  have HFB := hide fun (y : World) (h : Below ((w.alloc (.cells #[.int .i64 a, .int .i64 b] 23)).alloc (.cells #[.int .i64 c, .int .i64 d] 23)).heap.size ((w.alloc (.cells #[.int .i64 a, .int .i64 b] 23)).alloc (.cells #[.int .i64 c, .int .i64 d] 23)) y) => hb1.trans (h.mono hb1.size)
  unfold bkR at *
  clear hv hb1 N1 N2 N3 hE
  go_enter Try.func7, Try.ntmps7
  go_wp2_with (go_at_call 8; (with_reducible refine HC1.out.mono ?_); rintro e' y1 ⟨rfl, hy⟩; have HY := hide hy; obtain ⟨c0, c1⟩ := HB0.out _ hy; obtain ⟨c2, c3⟩ := HB1.out _ hy; obtain ⟨n1, n2, n3⟩ := HNW.out true _ hy; have HC2 := hide (HP.out true _ _ n1 n2 n3); clear hy n1 n2 n3 HC1)
  go_wp2_with (go_at_call 8; (with_reducible refine HC2.out.mono ?_); rintro e' y2 ⟨rfl, hy⟩; have HY2 := hide (HFB.out _ hy); clear hy HC2)
  go_ret
  exact ⟨rfl, HY2.out⟩
theorem acquires_law (w : World) (a b c d : Int) (v : Value) (os : List OpV) (hv : OSl w v os) (hl : os.length ≤ 1048576) :
    Calls Try.prog 3 #[.agg #[.int .i64 a, .int .i64 b], .agg #[.int .i64 c, .int .i64 d], v] w fun e' y => e' = .returned (.bool true) ∧ Below w.heap.size w y := by
  have hb1 := ((Below.refl w.heap.size w).alloc (Nat.le_refl _) (.cells #[.int .i64 a, .int .i64 b] 23)).alloc (by simp) (.cells #[.int .i64 c, .int .i64 d] 23)
  have HP := hide (play_any ((w.alloc (.cells #[.int .i64 a, .int .i64 b] 23)).alloc (.cells #[.int .i64 c, .int .i64 d] 23)) a b c d 1 1 v os (hv.below hb1) hl)
  have HFB := hide fun (y : World) (h : Below ((w.alloc (.cells #[.int .i64 a, .int .i64 b] 23)).alloc (.cells #[.int .i64 c, .int .i64 d] 23)).heap.size ((w.alloc (.cells #[.int .i64 a, .int .i64 b] 23)).alloc (.cells #[.int .i64 c, .int .i64 d] 23)) y) => hb1.trans (h.mono hb1.size)
  clear hb1 hv
  go_enter Try.func3, Try.ntmps3
  go_wp2_with (go_at_call 7; (with_reducible refine HP.out.mono ?_); rintro e' y1 ⟨rfl, hy⟩; have HY := hide (HFB.out _ hy); clear hy HP)
  go_ret
  exact ⟨rfl, HY.out⟩
theorem releases_law (w : World) (a b c d : Int) (v : Value) (os : List OpV) (hv : OSl w v os) (hl : os.length ≤ 1048576) :
    Calls Try.prog 4 #[.agg #[.int .i64 a, .int .i64 b], .agg #[.int .i64 c, .int .i64 d], v] w fun e' y => e' = .returned (.bool true) ∧ Below w.heap.size w y := by
  have hb1 := ((Below.refl w.heap.size w).alloc (Nat.le_refl _) (.cells #[.int .i64 a, .int .i64 b] 23)).alloc (by simp) (.cells #[.int .i64 c, .int .i64 d] 23)
  have HP := hide (play_any ((w.alloc (.cells #[.int .i64 a, .int .i64 b] 23)).alloc (.cells #[.int .i64 c, .int .i64 d] 23)) a b c d 2 3 v os (hv.below hb1) hl)
  have HFB := hide fun (y : World) (h : Below ((w.alloc (.cells #[.int .i64 a, .int .i64 b] 23)).alloc (.cells #[.int .i64 c, .int .i64 d] 23)).heap.size ((w.alloc (.cells #[.int .i64 a, .int .i64 b] 23)).alloc (.cells #[.int .i64 c, .int .i64 d] 23)) y) => hb1.trans (h.mono hb1.size)
  clear hb1 hv
  go_enter Try.func4, Try.ntmps4
  go_wp2_with (go_at_call 7; (with_reducible refine HP.out.mono ?_); rintro e' y1 ⟨rfl, hy⟩; have HY := hide (HFB.out _ hy); clear hy HP)
  go_ret
  exact ⟨rfl, HY.out⟩
theorem asks_law (w : World) (a b c d : Int) (v : Value) (os : List OpV) (hv : OSl w v os) (hl : os.length ≤ 1048576) :
    Calls Try.prog 5 #[.agg #[.int .i64 a, .int .i64 b], .agg #[.int .i64 c, .int .i64 d], v] w fun e' y => e' = .returned (.bool true) ∧ Below w.heap.size w y := by
  have hb1 := ((Below.refl w.heap.size w).alloc (Nat.le_refl _) (.cells #[.int .i64 a, .int .i64 b] 23)).alloc (by simp) (.cells #[.int .i64 c, .int .i64 d] 23)
  have HP := hide (play_any ((w.alloc (.cells #[.int .i64 a, .int .i64 b] 23)).alloc (.cells #[.int .i64 c, .int .i64 d] 23)) a b c d 4 7 v os (hv.below hb1) hl)
  have HFB := hide fun (y : World) (h : Below ((w.alloc (.cells #[.int .i64 a, .int .i64 b] 23)).alloc (.cells #[.int .i64 c, .int .i64 d] 23)).heap.size ((w.alloc (.cells #[.int .i64 a, .int .i64 b] 23)).alloc (.cells #[.int .i64 c, .int .i64 d] 23)) y) => hb1.trans (h.mono hb1.size)
  clear hb1 hv
  go_enter Try.func5, Try.ntmps5
  go_wp2_with (go_at_call 7; (with_reducible refine HP.out.mono ?_); rintro e' y1 ⟨rfl, hy⟩; have HY := hide (HFB.out _ hy); clear hy HP)
  go_ret
  exact ⟨rfl, HY.out⟩
theorem exact_law (w : World) (a b c d : Int) (v : Value) (os : List OpV) (hv : OSl w v os) (hl : os.length ≤ 1048576) :
    Calls Try.prog 6 #[.agg #[.int .i64 a, .int .i64 b], .agg #[.int .i64 c, .int .i64 d], v] w fun e' y => e' = .returned (.bool true) ∧ Below w.heap.size w y := by
  have hb1 := ((Below.refl w.heap.size w).alloc (Nat.le_refl _) (.cells #[.int .i64 a, .int .i64 b] 23)).alloc (by simp) (.cells #[.int .i64 c, .int .i64 d] 23)
  have HP := hide (play_any ((w.alloc (.cells #[.int .i64 a, .int .i64 b] 23)).alloc (.cells #[.int .i64 c, .int .i64 d] 23)) a b c d 1 7 v os (hv.below hb1) hl)
  have HFB := hide fun (y : World) (h : Below ((w.alloc (.cells #[.int .i64 a, .int .i64 b] 23)).alloc (.cells #[.int .i64 c, .int .i64 d] 23)).heap.size ((w.alloc (.cells #[.int .i64 a, .int .i64 b] 23)).alloc (.cells #[.int .i64 c, .int .i64 d] 23)) y) => hb1.trans (h.mono hb1.size)
  clear hb1 hv
  go_enter Try.func6, Try.ntmps6
  go_wp2_with (go_at_call 7; (with_reducible refine HP.out.mono ?_); rintro e' y1 ⟨rfl, hy⟩; have HY := hide (HFB.out _ hy); clear hy HP)
  go_ret
  exact ⟨rfl, HY.out⟩
end Go.Proofs.Ytijfnacplikibab
