import Derived.Test.YtglajdmkbckjjaaDoorBUnion3
import Derived.Test.YtglajdmkbckjjaaDoorBTwo2
import Derived.Deep.DeepMust
namespace Go.Proofs.YtglajdmkbckjjaaDoor
open Go.RowKit Go.Shelf
set_option linter.unusedVariables false
set_option linter.unusedSimpArgs false
set_option maxRecDepth 20000

theorem cnt_news (A V : Nat) : ∀ n, cnt (A ||| V).testBit n = cnt A.testBit n + news A V n
  | 0 => rfl
  | n + 1 => by
    have ih := cnt_news A V n
    unfold news at *
    simp only [cnt]
    rw [ih, Nat.testBit_or]
    cases A.testBit n <;> cases V.testBit n <;> simp <;> omega
theorem news_again (A V n : Nat) : news (A ||| V) V n = 0 := cnt_zero n fun i _ => by rw [Nat.testBit_or]; cases A.testBit i <;> cases V.testBit i <;> rfl
theorem or_again (A V : Nat) : A ||| V ||| V = A ||| V := by rw [Nat.or_assoc, Nat.or_self]
theorem orAll_two (a b : List Nat) : orAll [a, b] = valW a ||| valW b := by simp [orAll]
theorem orAll_three (a b : List Nat) : orAll [b, a, b] = valW a ||| valW b := by
  simp only [orAll, List.foldl, Nat.zero_or]
  rw [Nat.or_comm (valW b) (valW a), or_again]

theorem LSl.two {w : World} {u v : Value} {a b : List Nat} (hu : WSl w u a) (hv : WSl w v b) : LSl (w.alloc (.cells #[u, v] 22)) (.slice (some ⟨w.heap.size, 0, none⟩) 2 2) [a, b] := by
  have hb : Below w.heap.size w (w.alloc (.cells #[u, v] 22)) := (Below.refl _ _).alloc (Nat.le_refl _) _
  have hn := Go.heap_alloc_new w (.cells #[u, v] 22)
  refine ⟨some ⟨w.heap.size, 0, none⟩, 2, rfl, by simp, by unfold maxLen; omega, fun _ => ⟨w.heap.size, 0, rfl, fun i hi => ?_⟩⟩
  match i, hi with
  | 0, _ => exact ⟨u, by rw [cell_of_row _ _ _ _ _ _ hn]; rfl, hu.below hb⟩
  | 1, _ => exact ⟨v, by rw [cell_of_row _ _ _ _ _ _ hn]; rfl, hv.below hb⟩
theorem LSl.three {w : World} {t u v : Value} {a b c : List Nat} (ht : WSl w t a) (hu : WSl w u b) (hv : WSl w v c) : LSl (w.alloc (.cells #[t, u, v] 22)) (.slice (some ⟨w.heap.size, 0, none⟩) 3 3) [a, b, c] := by
  have hb : Below w.heap.size w (w.alloc (.cells #[t, u, v] 22)) := (Below.refl _ _).alloc (Nat.le_refl _) _
  have hn := Go.heap_alloc_new w (.cells #[t, u, v] 22)
  refine ⟨some ⟨w.heap.size, 0, none⟩, 3, rfl, by simp, by unfold maxLen; omega, fun _ => ⟨w.heap.size, 0, rfl, fun i hi => ?_⟩⟩
  match i, hi with
  | 0, _ => exact ⟨t, by rw [cell_of_row _ _ _ _ _ _ hn]; rfl, ht.below hb⟩
  | 1, _ => exact ⟨u, by rw [cell_of_row _ _ _ _ _ _ hn]; rfl, hu.below hb⟩
  | 2, _ => exact ⟨v, by rw [cell_of_row _ _ _ _ _ _ hn]; rfl, hv.below hb⟩

/-- words that were handed out, from w on -/
def Out (w W : World) (v : Value) (l : List Nat) : Prop := WSl W v l ∧ Below w.heap.size w W
theorem Qt.wsl {w w' : World} {v : Value} {l : List Nat} (h : Qt w w') (hv : WSl w v l) : WSl w' v l := hv.below h.2
theorem OSl.empty (w : World) : OSl w (.slice none 0 0) [] := ⟨none, 0, rfl, Nat.le_refl _, by unfold maxLen; omega, by simp, by simp⟩
theorem addZero {l : List Nat} : l.length = l.length + 0 := rfl

theorem sameWords_eq {w : World} {v1 v2 : Value} {l : List Nat} (h1 : WSl w v1 l) (h2 : WSl w v2 l) : Calls Tryd.prog 19 #[v1, v2] w fun e w' => e = .returned (.bool true) ∧ Qt w w' := by
  have := sameWords_any h1 h2
  rwa [decide_eq_true rfl] at this
theorem row_fresh {w : World} {base : Nat} {e : TypeId} {v : Value} {m : Nat} {xs : List Value} (h : w.ownsRow base e 1 v m xs) : ∀ g, blockOf v = some g → base ≤ g := by
  intro g hg
  rcases h.2 with ⟨rfl, _⟩ | ⟨g', cap, cur, rfl, h1, _⟩
  · simp [blockOf] at hg
  · simp only [blockOf, Option.some.injEq] at hg
    omega
theorem not_U {w w0 : World} {L : BL} {n B : Nat} {v : Value} (h : BRep w L n B) (hf : ∀ g, blockOf v = some g → w0.heap.size ≤ g) (hle : w.heap.size ≤ w0.heap.size) : ∀ g, blockOf v = some g → ¬ L.U g := fun g hg hu => by
  have := hf g hg
  have := h.uLt g hu
  omega
theorem alloc_lt (w : World) (o : Obj) : w.heap.size < (w.alloc o).heap.size := by simp
theorem WSl.val {w : World} {v : Value} {l : List Nat} (h : WSl w v l) : ∃ a cap, v = .slice a l.length cap := by
  obtain ⟨a, cap, e, -⟩ := h
  exact ⟨a, cap, e⟩
theorem WSl.shape {w : World} {v : Value} {l : List Nat} {m : Nat} (h : WSl w v l) (hl : l.length = m) (h0 : 0 < m) : ∃ b off cap, v = .slice (some ⟨b, off, none⟩) m cap ∧ m ≤ cap ∧ cap ≤ 9223372036854775807 ∧ ∀ i, i < m → w.cell? ⟨b, off + i, none⟩ = some (.int .u64 (l.getD i 0 : Nat)) := by
  subst hl
  obtain ⟨b, off, cap, e, h1, h2, h3⟩ := h.parts h0
  exact ⟨b, off, cap, e, h1, h2, h3⟩

set_option maxHeartbeats 4000000 in
theorem mu_main {w : World} {va vb : Value} {la lb : List Nat} (n : Nat) (hT : TabAt w) (hva : WSl w va la) (hra : la.length ≤ 17592186044416) (hvb : WSl w vb lb) (hrb : lb.length ≤ 17592186044416) (h1 : 1 ≤ n) (h2 : n ≤ 65536) (hea : cwErr n la = 0) (heb : cwErr n lb = 0) :
    Calls Tryd.prog 4 #[.int .i64 (n : Int), va, vb] w fun e w' => e = .returned (.bool true) ∧ Below w.heap.size w w' := by
  have hca : canB (n : Int) la = true := decide_eq_true ⟨by omega, by omega, by rw [Int.toNat_natCast]; exact hea⟩
  have hcb : canB (n : Int) lb = true := decide_eq_true ⟨by omega, by omega, by rw [Int.toNat_natCast]; exact heb⟩
  have HLA := hide (listed_any (n : Int) hva)
  have HLB := hide (listed_any (n : Int) hvb)
  rw [hca] at HLA
  rw [hcb] at HLB
  have HLAY := hide (lay_law n h1 h2 hva hra hea (OSl.empty w))
  rw [show foldO n (valW la) [] = valW la from rfl] at HLAY
  obtain ⟨ela, -⟩ := valW_listed h1 hva.lt hea
  obtain ⟨elb, -⟩ := valW_listed h1 hvb.lt heb
  have hWA : Hid (∀ i, i < nW n → wd (valW la) i = la.getD i 0) := hide fun i _ => wd_valW _ _ hva.lt
  have hWB : Hid (∀ i, i < nW n → wd (valW lb) i = lb.getD i 0) := hide fun i _ => wd_valW _ _ hvb.lt
  have HO2 := hide (orAll_two la lb)
  have HO3 := hide (orAll_three la lb)
  have hm0 : 1 ≤ nW n := by unfold nW; omega
  have hm1 : nW n ≤ 1024 := by unfold nW; omega
  -- contracts in any world behind w
  have HCNTA : Hid (∀ W L, BNewAt w W L n (valW la) → Calls Tryd.prog 14 #[PB L] W fun e w' => e = .returned (.int .i64 ((cnt (valW la).testBit n : Nat) : Int)) ∧ w' = W) := hide fun W L h => Count_any h.1
  have HCPB : Hid (∀ W, Below w.heap.size w W → Calls Tryd.prog 16 #[vb] W fun e w' => ∃ v', e = .returned v' ∧ Cp W.heap.size w' v' lb ∧ WSl w' v' lb ∧ Below W.heap.size W w') := hide fun W hb => copied_any (hvb.below hb) hrb
  have HCPA : Hid (∀ W, Below w.heap.size w W → Calls Tryd.prog 16 #[va] W fun e w' => ∃ v', e = .returned v' ∧ Cp W.heap.size w' v' la ∧ WSl w' v' la ∧ Below W.heap.size W w') := hide fun W hb => copied_any (hva.below hb) hra
  have HMRG : Hid (∀ W W1 L v, BNewAt w W L n (valW la) → Cp W.heap.size W1 v lb → WSl W1 v lb → Below W.heap.size W W1 → Calls Tryd.prog 15 #[PB L, v] W1 fun e w' => e = .returned (.tuple #[.int .i64 ((news (valW la) (valW lb) n : Nat) : Int), .int .i64 0]) ∧ BNewAt w w' L n (valW la ||| valW lb)) := hide fun W W1 L v h hc hv hb =>
    (Merge_any (h.1.below hb) hv (fun g hg hu => by have := (hc.new g hg).1; have := h.1.uLt g hu; omega) heb).mono fun e w' hp => ⟨hp.1, (h.below hb).step hp.2.1 hp.2.2.1⟩
  have HMRG2 : Hid (∀ W W1 L v, BNewAt w W L n (valW la ||| valW lb) → Cp W.heap.size W1 v lb → WSl W1 v lb → Below W.heap.size W W1 → Calls Tryd.prog 15 #[PB L, v] W1 fun e w' => e = .returned (.tuple #[.int .i64 0, .int .i64 0]) ∧ BNewAt w w' L n (valW la ||| valW lb) ∧ ∀ g, g < W1.heap.size → ¬ L.U g → w'.heap[g]? = W1.heap[g]?) := hide fun W W1 L v h hc hv hb => by
    have := Merge_any (h.1.below hb) hv (fun g hg hu => by have := (hc.new g hg).1; have := h.1.uLt g hu; omega) heb
    rw [news_again, or_again] at this
    exact this.mono fun e w' hp => ⟨hp.1, (h.below hb).step hp.2.1 hp.2.2.1, hp.2.2.1.keep⟩
  have hcn := cnt_news (valW la) (valW lb) n
  have hcl1 := cnt_le (valW la).testBit n
  have hcl2 := news_le (valW la) (valW lb) n
  generalize hAV : valW la ||| valW lb = AB at *
  have hWAB : Hid (∀ i, i < nW n → wd AB i = la.getD i 0 ||| lb.getD i 0) := hide fun i hi => by rw [← hAV, wd_or, hWA.out i hi, hWB.out i hi]
  have HCNTB : Hid (∀ W L, BNewAt w W L n AB → Calls Tryd.prog 14 #[PB L] W fun e w' => e = .returned (.int .i64 ((cnt AB.testBit n : Nat) : Int)) ∧ w' = W) := hide fun W L h => Count_any h.1
  have HWDS : Hid (∀ W L, BNewAt w W L n AB → Calls Tryd.prog 17 #[PB L] W fun e w' => ∃ v', e = .returned v' ∧ WSl w' v' (wds AB (nW n)) ∧ BNewAt w w' L n AB ∧ Below W.heap.size W w') := hide fun W L h =>
    (Words_any h.1).mono fun e w' hp => by obtain ⟨v', e1, e2, e3, e4⟩ := hp; exact ⟨v', e1, e3, h.below e4, e4⟩
  have HUN2 : Hid (∀ W v, TabAt W → LSl W v [la, lb] → Calls Tryd.prog 18 #[.int .i64 (n : Int), v] W fun e w' => ∃ v', e = .returned (.tuple #[v', .int .i64 0]) ∧ WSl w' v' (wds AB (nW n)) ∧ Below W.heap.size W w' ∧ ∀ g, blockOf v' = some g → W.heap.size ≤ g) := hide fun W v ht hl => by
    have := Union_any n ht h1 h2 hl (fun i hi => by match i, hi with | 0, _ => exact hea | 1, _ => exact heb)
    rw [HO2.out] at this
    exact this.mono fun e w' hp => by obtain ⟨v', e1, e2, e3, e4⟩ := hp; exact ⟨v', e1, e3, e4, row_fresh e2⟩
  have HUN3 : Hid (∀ W v, TabAt W → LSl W v [lb, la, lb] → Calls Tryd.prog 18 #[.int .i64 (n : Int), v] W fun e w' => ∃ v', e = .returned (.tuple #[v', .int .i64 0]) ∧ WSl w' v' (wds AB (nW n)) ∧ Below W.heap.size W w') := hide fun W v ht hl => by
    have := Union_any n ht h1 h2 hl (fun i hi => by match i, hi with | 0, _ => exact heb | 1, _ => exact hea | 2, _ => exact heb)
    rw [HO3.out] at this
    exact this.mono fun e w' hp => by obtain ⟨v', e1, e2, e3, e4⟩ := hp; exact ⟨v', e1, e3, e4⟩
  have HTAB : Hid (∀ W, Below w.heap.size w W → TabAt W) := hide fun W hb => hT.below hb
  clear hAV HO2 HO3 hWA hWB hT hca hcb hea heb
  generalize cnt AB.testBit n = cAB at *
  generalize cnt (valW la).testBit n = cA at *
  generalize news (valW la) (valW lb) n = nw at *
  subst hcn
  have hb00 : Below w.heap.size w w := Below.refl _ _
  have HVA := hide hva
  have HVB := hide hvb
  obtain ⟨ga, oa, capa, rfl, qa1, qa2, qa3⟩ := hva.shape ela (by omega)
  obtain ⟨gb, ob, capb, rfl, qb1, qb2, qb3⟩ := hvb.shape elb (by omega)
  have HLA3 := hide qa3
  have HLB3 := hide qb3
  have hgl : Hid (∀ i, la.getD i 0 < 18446744073709551616) := hide hva.getLt
  have hgm : Hid (∀ i, lb.getD i 0 < 18446744073709551616) := hide hvb.getLt
  have hdec : ((nw : Int) != (cA : Int) + (nw : Int) - (cA : Int)) = false := by simp; omega
  have hpe := ptrEqNil
  clear qa3 qb3 hva hvb hra hrb ela elb
  unfold PB at *
  generalize hm : nW n = m at *
  have HMN := hide hm
  clear hm
  go_enter Tryd.func4, Tryd.ntmps4
  go_wp2_with (first
    | (go_at_call 9; (with_reducible refine HLA.out.mono ?_); clear HLA; rintro e w' ⟨rfl, hw'⟩; subst hw')
    | (go_at_call 9; (with_reducible refine HLB.out.mono ?_); clear HLB; rintro e w' ⟨rfl, hw'⟩; subst hw')
    | (go_at_call 10; refine HLAY.out.mono ?_; clear HLAY; rintro e w1 ⟨L, rfl, hn0⟩; have hb1 := hn0.2.1)
    | (go_at_call 14; refine (HCNTA.out _ _ hn0).mono ?_; clear HCNTA; rintro e w' ⟨rfl, hw'⟩; subst hw')
    | (go_at_call 16; (with_reducible refine (HCPB.out _ hb1).mono ?_); clear hb1; rintro e w2 ⟨cv1, rfl, hcp1, hcw1, hcb1⟩)
    | (go_at_call 15; refine (HMRG.out _ _ _ _ hn0 hcp1 hcw1 hcb1).mono ?_; clear HMRG; rintro e w3 ⟨rfl, hn1⟩)
    | (go_at_call 14; refine (HCNTB.out _ _ hn1).mono ?_; clear HCNTB; rintro e w' ⟨rfl, hw'⟩; subst hw')
    | (go_at_call 17; refine (HWDS.out _ _ hn1).mono ?_; clear hn1; rintro e w4 ⟨vbo, rfl, hbo, hn2, -⟩; have hb4 := hn2.2.1)
    | (go_at_call 16; (with_reducible refine (HCPA.out _ hb4).mono ?_); rintro e w5 ⟨ca, rfl, -, hca5, hcb5⟩; obtain ⟨xca, yca, rfl⟩ := hca5.val; have hb5 := hb4.trans (hcb5.mono hb4.size); clear hb4)
    | (go_at_call 16; (with_reducible refine (HCPB.out _ hb5).mono ?_); rintro e w6 ⟨cb, rfl, -, hcb6, hcc6⟩; obtain ⟨xcb, ycb, rfl⟩ := hcb6.val; have hb6 := hb5.trans (hcc6.mono hb5.size); clear hb5; have hca6 := hca5.below hcc6; have hbo6 := (hbo.below hcb5).below hcc6; have hn6 := (hn2.below hcb5).below hcc6)
    | (go_at_call 18; refine (HUN2.out _ _ (HTAB.out _ (hb6.alloc hb6.size _)) (LSl.two hca6 hcb6)).mono ?_; go_must (clear HUN2; rintro e w7 ⟨vl, rfl, hvl, hbl, hfr0⟩; have hfr := not_U hn6.1 hfr0 (Nat.le_of_lt (alloc_lt _ _)); have hb67 : Below w6.heap.size w6 w7 := ((Below.refl _ _).alloc (Nat.le_refl _) _).trans (hbl.mono (by simp)); have hb7 := hb6.trans (hb67.mono hb6.size); have hbo7 := hbo6.below hb67; have hn7 := hn6.below hb67))
    | (go_at_call 16; (with_reducible refine (HCPB.out _ hb7).mono ?_); rintro e w8 ⟨cb8, rfl, -, hw8, hc8⟩; obtain ⟨xcb8, ycb8, rfl⟩ := hw8.val; have hb8 := hb7.trans (hc8.mono hb7.size); clear hb7)
    | (go_at_call 16; (with_reducible refine (HCPA.out _ hb8).mono ?_); rintro e w9 ⟨ca9, rfl, -, hw9, hc9⟩; obtain ⟨xca9, yca9, rfl⟩ := hw9.val; have hb9 := hb8.trans (hc9.mono hb8.size); clear hb8)
    | (go_at_call 16; (with_reducible refine (HCPB.out _ hb9).mono ?_); rintro e w10 ⟨cb10, rfl, -, hw10, hc10⟩; obtain ⟨xcb10, ycb10, rfl⟩ := hw10.val; have hb10 := hb9.trans (hc10.mono hb9.size); clear hb9; have hvl10 := ((hvl.below hc8).below hc9).below hc10; have hbo10 := ((hbo7.below hc8).below hc9).below hc10; have hn10 := ((hn7.below hc8).below hc9).below hc10)
    | (go_at_call 18; refine (HUN3.out _ _ (HTAB.out _ (hb10.alloc hb10.size _)) (LSl.three ((hw8.below hc9).below hc10) (hw9.below hc10) hw10)).mono ?_; clear HUN3; rintro e w11 ⟨vr, rfl, hvr, hbr⟩; have hb1011 : Below w10.heap.size w10 w11 := ((Below.refl _ _).alloc (Nat.le_refl _) _).trans (hbr.mono (by simp)); have hb11 := hb10.trans (hb1011.mono hb10.size); have hbo11 := hbo10.below hb1011; have hvl11 := hvl10.below hb1011; have hn11 := hn10.below hb1011)
    | (go_at_call 13; refine (num_any _ _).mono ?_; rintro e w' ⟨rfl, hw'⟩; subst hw')
    | (go_at_call 19; (with_reducible refine (sameWords_eq hbo11 hvl11).mono ?_); rintro e w12 ⟨rfl, hq12⟩; clear hbo11; have hvl12 := hq12.wsl hvl11; have hvr12 := hq12.wsl hvr; have hb12 := hb11.trans (hq12.2.mono hb11.size); have hn12 := hn11.below hq12.2)
    | (go_at_call 19; (with_reducible refine (sameWords_eq hvl12 hvr12).mono ?_); rintro e w13 ⟨rfl, hq13⟩; clear hvr12; have hvl13 := hq13.wsl hvl12; have hb13 := hb12.trans (hq13.2.mono hb12.size); have hn13 := hn12.below hq13.2; have HVL13 := hide hvl13; obtain ⟨gl, ol, capl, rfl, ql1, ql2, ql3⟩ := hvl13.shape (wds_len _ _) (by omega); have HL3 := hide ql3; clear ql3))
  have hcap : capl ≤ 9223372036854775807 := ql2
  have HN13 := hide hn13
  have HB13 := hide hb13
  clear hn0 hcp1 hcw1 hcb1 hn2 hbo hca5 hcb5 hcb6 hcc6 hca6 hbo6 hn6 hb6 hvl hbl hfr0 hb67 hbo7 hn7 hw8 hc8 hw9 hc9 hw10 hc10 hb10 hvl10 hbo10 hn10 hvr hbr hb1011 hb11 hvl11 hn11 hq12 hvl12 hb12 hn12 hq13 hvl13 hb13 hn13
  go_loopw [19] (fun i wr => ∃ k : Nat, k ≤ m ∧ i = .int .i64 (k : Int) ∧ Qt w13 wr) (fun i _ => m - (intOf i).toNat)
  case atStart => exact ⟨0, Nat.zero_le _, rfl, Qt.refl _⟩
  case round =>
    obtain ⟨k, hk, rfl, hq⟩ := hrel
    by_cases hlt : k < m
    · have e1 : ∀ {b o : Nat}, wr.cell? ⟨b, o, none⟩ = w13.cell? ⟨b, o, none⟩ := fun {b o} => World.cell?_of_block (by rw [hq.1])
      have r1 : wr.cell? ⟨gl, ol + k, none⟩ = some (.int .u64 ((la.getD k 0 ||| lb.getD k 0 : Nat) : Int)) := by rw [e1, HL3.out k hlt, wds_get hlt, hWAB.out k hlt]
      have r2 : wr.cell? ⟨ga, oa + k, none⟩ = some (.int .u64 (la.getD k 0 : Nat)) := by rw [e1]; exact cell_below HB13.out (HLA3.out k hlt)
      have r3 : wr.cell? ⟨gb, ob + k, none⟩ = some (.int .u64 (lb.getD k 0 : Nat)) := by rw [e1]; exact cell_below HB13.out (HLB3.out k hlt)
      have eo := u64_or_nat _ _ (hgl.out k) (hgm.out k)
      have HQ := hide hq
      clear e1 hq
      generalize la.getD k 0 ||| lb.getD k 0 = z at *
      generalize la.getD k 0 = x at *
      generalize lb.getD k 0 = y at *
      have hzz : ((z : Int) != (z : Int)) = false := by simp
      go_wp2
      go_quiet (fail)
      go_wp2
      go_roundw
      case rel => exact ⟨k + 1, by omega, by go_num, HQ.out.drewN _⟩
      case measure => simp [intOf]; omega
    · have hnr := HN13.out.below hq.2
      have hbr := hnr.2.1
      have hvr := hq.wsl HVL13.out
      clear HN13 HB13 hq HVL13
      go_wp2_with (first
        | (go_at_call 16; (with_reducible refine (HCPB.out _ hbr).mono ?_); clear HCPB; rintro e w14 ⟨cv2, rfl, hcp2, hcw2, hcb2⟩; have hv14 := hvr.below hcb2)
        | (go_at_call 15; refine (HMRG2.out _ _ _ _ hnr hcp2 hcw2 hcb2).mono ?_; clear HMRG2; rintro e w15 ⟨rfl, hn15, hch15⟩; have hv15 := hv14.keptIf fun g hg hlt => hch15 g hlt (hfr g hg))
        | (go_at_call 13; refine (num_any _ _).mono ?_; rintro e w' ⟨rfl, hw'⟩; subst hw')
        | (go_at_call 17; refine (HWDS.out _ _ hn15).mono ?_; clear HWDS; rintro e w16 ⟨vw, rfl, hvw, hn16, hb16⟩; clear hn15; have hv16 := hv15.below hb16)
        | (go_at_call 19; (with_reducible refine (sameWords_eq hvw hv16).mono ?_); rintro e w17 ⟨rfl, hq17⟩))
      go_ret
      exact ⟨rfl, hn16.2.1.trans (hq17.2.mono hn16.2.1.size)⟩
end Go.Proofs.YtglajdmkbckjjaaDoor
