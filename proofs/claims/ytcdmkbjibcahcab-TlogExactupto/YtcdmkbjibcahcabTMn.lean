import Derived.Test.YtcdmkbjibcahcabTMc
namespace Go.Proofs.Ytcdmkbjibcahcab
open Go.RowKit
set_option linter.unusedVariables false
set_option linter.unusedSimpArgs false
set_option maxRecDepth 20000

theorem wp_still_all {P : Program} {id : Nat} {Q : Exit → Act → World → Prop} {a : Act} {w : World} {l : List Oper} (hm : P.follows .mixedOrders = true) (hB : Region.lexB .any l.toArray = true)
    (h : wpStill P l.toArray (w.drewN 1) (fun a' => Q .normal a' (w.drewN 1)) l a) : (Code.region id l.toArray true).wp P Q a w := wp_region_still_lit hm hB h
set_option maxHeartbeats 2000000 in
theorem mv_next {w0 x : World} {p bm q b : Nat} {A0 : Nat → Nat → Prop} {v dv : Value} {S : LS} {c N : Nat} (h : PX w0 x p bm v q dv S S b c N A0 []) (hN : N ≤ 10000000000000) (hc : c ≤ 4400000000000) (he : S.ls ≠ []) (o1 o2 o3 : Int) (hid : i64ok o2) (told : Bool) : Calls Try.prog 6 #[.agg #[.pointer (some ⟨p, 0, none⟩), .pointer (some ⟨q, 0, none⟩)], .agg #[.int .i64 10, .int .i64 o1, .int .i64 o2, .int .i64 o3], .bool told, .pointer (some ⟨b, 0, none⟩)] x (MvP w0 x p bm q b A0 v dv (c + 1) (N + 1)) := by
  obtain ⟨a, cc, e9, b1, b2, hq⟩ := h.dl.own.form
  unfold maxLen at b2
  subst e9
  have hn0 : 0 < S.ls.length := List.length_pos_iff.2 he
  have hl := h.al.ok.bd.es
  rw [LS.es_len] at hl
  have HP0 := hide (PM.start h (10, o1, o2, o3))
  obtain ⟨ep, hep⟩ : ∃ e, (S.ls.getD 0 l0).1.2.2 = e := ⟨_, rfl⟩
  have HA : Hid (∀ y, PM w0 x y p bm q b A0 v (.slice a S.ls.length cc) (10, o1, ep, ((ofN S.ls ep : Nat) : Int)) v (.slice a S.ls.length cc) S S c N [] → Calls Try.prog 30 #[.pointer (some ⟨p, 0, none⟩), .int .i64 ep, .int .i64 ((ofN S.ls ep : Nat) : Int)] y fun e z => ∃ lv v', e = .returned (.tuple #[lv, .int .i64 (barE S ep ((ofN S.ls ep : Nat) : Int))]) ∧ PM w0 x z p bm q b A0 v (.slice a S.ls.length cc) (10, o1, ep, ((ofN S.ls ep : Nat) : Int)) v' (.slice a S.ls.length cc) (barR S ep ((ofN S.ls ep : Nat) : Int)) S c N [(lv, barL S ep ((ofN S.ls ep : Nat) : Int))]) := hide fun y hy => hy.bar hN _ _
  have HR : Hid (∀ y lv v', PM w0 x y p bm q b A0 v (.slice a S.ls.length cc) (10, o1, ep, ((ofN S.ls ep : Nat) : Int)) v' (.slice a S.ls.length cc) (barR S ep ((ofN S.ls ep : Nat) : Int)) S c N [(lv, barL S ep ((ofN S.ls ep : Nat) : Int))] → Calls Try.prog 31 #[.pointer (some ⟨q, 0, none⟩), .int .i64 ep, .int .i64 ((ofN S.ls ep : Nat) : Int)] y fun e z => ∃ l2 dv', e = .returned (.tuple #[l2, .int .i64 (barE S ep ((ofN S.ls ep : Nat) : Int))]) ∧ PM w0 x z p bm q b A0 v (.slice a S.ls.length cc) (10, o1, ep, ((ofN S.ls ep : Nat) : Int)) v' dv' (barR S ep ((ofN S.ls ep : Nat) : Int)) (barR S ep ((ofN S.ls ep : Nat) : Int)) c N [(lv, barL S ep ((ofN S.ls ep : Nat) : Int))] ∧ ERow z l2 (barL S ep ((ofN S.ls ep : Nat) : Int))) := hide fun y lv v' hy => hy.rbar h.al.ok _ _
  have HS := hide fun (k : Nat) (hk : k < S.ls.length) => ofN_step S.ls ep hk
  have HL := hide fun k => (ofN_le (S.ls.take k) ep)
  have HT : Hid (ofN (S.ls.take S.ls.length) ep = ofN S.ls ep) := hide (by rw [List.take_length])
  have HZ : Hid (ofN (S.ls.take 0) ep = 0) := hide rfl
  obtain ⟨F, hF⟩ : ∃ F : Nat → Nat, ∀ k, F k = ofN (S.ls.take k) ep := ⟨_, fun _ => rfl⟩
  have HB : Hid (∀ k, F k ≤ 2000) := hide fun k => by
    have := HL.out k
    rw [hF]
    rw [List.length_take] at this
    omega
  simp only [← hF] at HS HT HZ
  clear hF HL
  have HC : Hid (∀ y v' S2 c N P o, PM w0 x y p bm q b A0 v (.slice a S.ls.length cc) o v' (.slice a S.ls.length cc) S2 S c N P → y.cell? ⟨q, 0, none⟩ = some (.slice a S.ls.length cc) ∧ ∀ j, j < S.ls.length → ∃ g, a = some ⟨g, 0, none⟩ ∧ y.cell? ⟨g, j * 4 + 2, none⟩ = some (.int .i64 (S.ls.getD j l0).1.2.2)) := hide fun y v' S2 c N P o hy => by
    refine ⟨hy.px.dl.c0, fun j hj => ?_⟩
    obtain ⟨a', c', e', -, -, hq⟩ := hy.px.dl.own.form
    simp only [Value.slice.injEq, true_and] at e'
    obtain ⟨rfl, rfl⟩ := e'
    obtain ⟨g, e1, -, -, d2, -⟩ := hq j hj
    exact ⟨g, e1, d2⟩
  have HEP := hide hep
  obtain ⟨d0, hq0⟩ := HC.out _ _ _ _ _ _ _ HP0.out
  obtain ⟨g, ha, d2⟩ := hq0 0 hn0
  subst ha
  rw [hep] at d2
  simp only [Nat.zero_mul, Nat.zero_add] at d2
  have HP1 := hide (PM.start h (10, o1, ep, ((0 : Nat) : Int)))
  have hli0 : (0 : Int) < (S.ls.length : Int) := by omega
  clear h hid hq hq0 hep HP0
  generalize hn : S.ls.length = n at *
  clear hn
  go_enter Try.func6, Try.ntmps6
  go_wp2_with fail
  go_loopw [26] (fun u wr => ∃ k : Nat, k ≤ n ∧ u = .int .i64 (k : Int) ∧ Hid (PM w0 x wr p bm q b A0 v (.slice (some ⟨g, 0, none⟩) n cc) (10, o1, ep, (F k : Int)) v (.slice (some ⟨g, 0, none⟩) n cc) S S c N [])) (fun u _ => n - (intOf u).toNat)
  case atStart => exact ⟨0, Nat.zero_le _, rfl, by rw [HZ.out]; exact HP1⟩
  case round =>
    clear HP1 hli0 d0 d2
    obtain ⟨k, hk, rfl, HP⟩ := hrel
    have hb := HB.out k
    have p1 := HP.out.p1
    have q2 : wr.cell? ⟨x.heap.size + 1, 2, none⟩ = some (.int .i64 ep) := HP.out.o2
    have q3 : wr.cell? ⟨x.heap.size + 1, 3, none⟩ = some (.int .i64 (F k : Int)) := HP.out.o3
    have f3 := HP.out.fo 3
    obtain ⟨d0, hq0⟩ := HC.out _ _ _ _ _ _ _ HP.out
    by_cases hlt : k < n
    · obtain ⟨g', hg', d2⟩ := hq0 k hlt
      simp only [Option.some.injEq, Addr.mk.injEq, and_true] at hg'
      obtain rfl := hg'
      have hs := HS.out k hlt
      have hli : (k : Int) < (n : Int) := by omega
      clear HC HS hq0 HA HR
      by_cases hx : (S.ls.getD k l0).1.2.2 = ep
      · rw [if_pos hx] at hs
        have hxe : ((S.ls.getD k l0).1.2.2 == ep) = true := by simpa using hx
        have HN := hide hs
        have HQ := hide ((HP.out.below (below_drew0 _ 1)).set 3 (.int .i64 ((F k + 1 : Nat) : Int)) (10, o1, ep, ((F k + 1 : Nat) : Int)) rfl)
        clear hs hx
        generalize (S.ls.getD k l0).1.2.2 = z at *
        go_wp2_with fail
        refine wp_still_all (by kernel_rfl) (by kernel_rfl) ?_
        repeat still_step
        refine wpStill_nil ?_
        go_wp2_with fail
        go_roundw
        case rel => exact ⟨k + 1, by omega, by go_num, by rw [HN.out]; exact HQ⟩
        case measure => simp [intOf]; omega
      · rw [if_neg hx] at hs
        have hxe : ((S.ls.getD k l0).1.2.2 == ep) = false := by simpa using hx
        have HN := hide hs
        clear hs hx
        generalize (S.ls.getD k l0).1.2.2 = z at *
        go_wp2_with fail
        refine wp_still_all (by kernel_rfl) (by kernel_rfl) ?_
        repeat still_step
        refine wpStill_nil ?_
        go_wp2_with fail
        go_roundw
        case rel => exact ⟨k + 1, by omega, by go_num, by rw [HN.out]; exact hide (HP.out.below (below_drew0 _ 1))⟩
        case measure => simp [intOf]; omega
    · have ek : k = n := by omega
      subst ek
      have hli : ¬ (k : Int) < (k : Int) := by omega
      rw [HT.out] at q3 HP
      clear HC HS hq0 HB HZ HT
      have p0 := HP.out.p0
      generalize barE S ep ((ofN S.ls ep : Nat) : Int) = er at *
      generalize barL S ep ((ofN S.ls ep : Nat) : Int) = bl at *
      generalize barR S ep ((ofN S.ls ep : Nat) : Int) = S' at *
      generalize ((ofN S.ls ep : Nat) : Int) = cn at *
      have e1 : (er == er) = true := by simp
      go_wp2_with (first
        | (go_at_call 30; refine (HA.out _ HP.out).mono ?_; rintro e y1 ⟨lv, v1, rfl, k1⟩; have HP1 := hide k1; have p1 : y1.cell? ⟨x.heap.size, 1, none⟩ = _ := k1.p1; have q2 : y1.cell? ⟨x.heap.size + 1, 2, none⟩ = some (.int .i64 ep) := k1.o2; have q3 : y1.cell? ⟨x.heap.size + 1, 3, none⟩ = some (.int .i64 cn) := k1.o3; clear k1)
        | (go_at_call 31; refine (HR.out _ _ _ HP1.out).mono ?_; rintro e y2 ⟨l2, dv2, rfl, k2, k3⟩; have HP2 := hide k2; have HE2 := hide k3; clear k2 k3)
        | (go_at_call 18; refine (HP2.out.same HE2.out).mono ?_; rintro e y4 ⟨rfl, k2⟩; have HP3 := hide k2; clear k2)
        | (go_at_call 20; refine (HP3.out.keep hc).mono ?_; rintro e y5 ⟨rfl, k2⟩; have HP4 := hide k2; clear k2)
        | (go_at_call 10; refine (num_any _ _).mono ?_; rintro e y3 ⟨rfl, h9⟩; have h9s := h9.symm; clear h9; subst h9s))
      go_ret
      exact HP4.out.done (Nat.le_refl _) (Nat.le_succ N)
end Go.Proofs.Ytcdmkbjibcahcab
