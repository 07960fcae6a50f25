import Derived.Test.YtcdmkbjibcahcabTPm
namespace Go.Proofs.Ytcdmkbjibcahcab
open Go.RowKit
set_option linter.unusedVariables false
set_option linter.unusedSimpArgs false
set_option maxRecDepth 20000

section
variable {w0 x y z : World} {p bm q b : Nat} {A0 : Nat → Nat → Prop} {vs ds v dv v' dv' : Value} {o : Int × Int × Int × Int} {S D S' D' : LS} {c N c' N' : Nat} {P P' : VL}
theorem PM.done (h : PM w0 x y p bm q b A0 vs ds o v dv S S c N []) {c' N' : Nat} (hc : c ≤ c') (hn : N ≤ N') : MvP w0 x p bm q b A0 vs ds c' N' (.returned (.bool true)) y := ⟨v, dv, S, rfl, h.px.more hc hn, h.ft⟩
/-- what Add does to a log -/
def addR (S : LS) (id blk : Int) : LS := if refE S id blk = 0 then addS S id blk else S
def addA (S : LS) (id blk : Int) : Value := if refE S id blk = 0 then .tuple #[.int .i64 (S.now : Int), .bool (decide (joinN S + 1 = S.ep)), .int .i64 0] else .tuple #[.int .i64 0, .bool false, .int .i64 (refE S id blk)]
theorem PM.add (h : PM w0 x y p bm q b A0 vs ds o v dv S D c N P) (hN : N ≤ 10000000000000) (id blk : Int) (hid : i64ok id) : Calls Try.prog 23 #[.pointer (some ⟨p, 0, none⟩), .int .i64 id, .int .i64 blk] y fun e z => ∃ v', e = .returned (addA S id blk) ∧ PM w0 x z p bm q b A0 vs ds o v' dv (addR S id blk) D c (N + 1) P := by
  have a := h.px.al
  have h1 := a.nw
  have h2 := a.tot
  unfold addR addA
  by_cases hr : refE S id blk = 0
  · rw [if_pos hr, if_pos hr]
    refine (Add_ok y p bm v S id blk a.rep a.ok.bd hid hr (by omega) (by omega)).mono ?_
    rintro e z ⟨rfl, v', t⟩
    have al : AL w0 z p bm v' (addS S id blk) (N + 1) := a.of t (addS_ok a.ok hid hr) (by show S.now ≤ _; omega) (by
      show S.gone + (S.ls ++ _).length ≤ _
      simp
      omega)
    obtain ⟨k, f⟩ := h.px.log t al
    exact ⟨v', by rw [addS_joinN a.ok hid hr], h.step k f⟩
  · rw [if_neg hr, if_neg hr]
    refine (Add_no y p bm v S id blk a.rep a.ok.bd hid hr).mono ?_
    rintro e z ⟨rfl, t⟩
    obtain ⟨k, f⟩ := h.px.log t ((a.of t a.ok a.nw a.tot).more (Nat.le_succ N))
    exact ⟨v, rfl, h.step k f⟩
theorem PM.radd (h : PM w0 x y p bm q b A0 vs ds o v dv S D c N P) (hD : D.Ok) (id blk : Int) (hid : i64ok id) : Calls Try.prog 24 #[.pointer (some ⟨q, 0, none⟩), .int .i64 id, .int .i64 blk] y fun e z => ∃ dv', e = .returned (addA D id blk) ∧ PM w0 x z p bm q b A0 vs ds o v dv' S (addR D id blk) c N P := by
  have hl := hD.bd.es
  rw [LS.es_len] at hl
  have hq := rfE_eq hD id blk
  unfold addR addA
  by_cases hr : refE D id blk = 0
  · rw [if_pos hr, if_pos hr]
    have hlt : D.ls.length < 2000 := by
      have := (refE_zero hr).2.2.2.2.1
      have := hD.bd.l2
      rw [LS.es_len] at *
      omega
    refine (radd_ok h.px.dl hlt id blk (by rw [hq]; exact hr)).mono ?_
    rintro e z ⟨rfl, dv', t⟩
    obtain ⟨k, f⟩ := h.px.doc t
    refine ⟨dv', ?_, h.step k f⟩
    have e1 := ofN_now (addS_ok hD hid hr)
    rw [addS_joinN hD hid hr] at e1
    rw [show ((addS D id blk).now : Int) = (D.now : Int) from rfl] at e1
    rw [e1]
  · rw [if_neg hr, if_neg hr]
    refine (radd_no h.px.dl hl id blk (by rw [hq]; exact hr)).mono ?_
    rintro e z ⟨rfl, m, rfl⟩
    rw [hq]
    exact ⟨dv, rfl, h.below (below_drew0 _ m)⟩
theorem addA_form (S : LS) (id blk : Int) : ∃ n f er, addA S id blk = .tuple #[.int .i64 n, .bool f, .int .i64 er] := by
  unfold addA
  split
  · exact ⟨_, _, _, rfl⟩
  · exact ⟨_, _, _, rfl⟩
end
set_option maxHeartbeats 2000000 in
theorem mv_add {w0 x : World} {p bm q b : Nat} {A0 : Nat → Nat → Prop} {v dv : Value} {S : LS} {c N : Nat} (h : PX w0 x p bm v q dv S S b c N A0 []) (hN : N ≤ 10000000000000) (o1 o2 o3 : Int) (hid : i64ok o2) (told : Bool) : Calls Try.prog 6 #[.agg #[.pointer (some ⟨p, 0, none⟩), .pointer (some ⟨q, 0, none⟩)], .agg #[.int .i64 0, .int .i64 o1, .int .i64 o2, .int .i64 o3], .bool told, .pointer (some ⟨b, 0, none⟩)] x (MvP w0 x p bm q b A0 v dv (c + 1) (N + 1)) := by
  have HP0 := hide (PM.start h (0, o1, o2, o3))
  obtain ⟨nn, ff, er, ha⟩ := addA_form S o2 o3
  have HA : Hid (∀ y, PM w0 x y p bm q b A0 v dv (0, o1, o2, o3) v dv S S c N [] → Calls Try.prog 23 #[.pointer (some ⟨p, 0, none⟩), .int .i64 o2, .int .i64 o3] y fun e z => ∃ v', e = .returned (.tuple #[.int .i64 nn, .bool ff, .int .i64 er]) ∧ PM w0 x z p bm q b A0 v dv (0, o1, o2, o3) v' dv (addR S o2 o3) S c (N + 1) []) := hide fun y hy => by
    rw [← ha]
    exact hy.add hN o2 o3 hid
  have HR : Hid (∀ y v', PM w0 x y p bm q b A0 v dv (0, o1, o2, o3) v' dv (addR S o2 o3) S c (N + 1) [] → Calls Try.prog 24 #[.pointer (some ⟨q, 0, none⟩), .int .i64 o2, .int .i64 o3] y fun e z => ∃ dv', e = .returned (.tuple #[.int .i64 nn, .bool ff, .int .i64 er]) ∧ PM w0 x z p bm q b A0 v dv (0, o1, o2, o3) v' dv' (addR S o2 o3) (addR S o2 o3) c (N + 1) []) := hide fun y v' hy => by
    rw [← ha]
    exact hy.radd h.al.ok o2 o3 hid
  have e1 : (nn == nn) = true := by simp
  have e2 : (ff == ff) = true := by simp
  have e3 : (er == er) = true := by simp
  clear h hid ha
  go_enter Try.func6, Try.ntmps6
  go_wp2_with (first
    | (go_at_call 23; refine (HA.out _ HP0.out).mono ?_; rintro e y1 ⟨v1, rfl, k1⟩; have HP1 := hide k1; have p1 : y1.cell? ⟨x.heap.size, 1, none⟩ = _ := k1.p1; have q2 : y1.cell? ⟨x.heap.size + 1, 2, none⟩ = some (.int .i64 o2) := k1.o2; have q3 : y1.cell? ⟨x.heap.size + 1, 3, none⟩ = some (.int .i64 o3) := k1.o3; clear k1)
    | (go_at_call 24; refine (HR.out _ _ HP1.out).mono ?_; rintro e y2 ⟨dv2, rfl, k2⟩; have HP2 := hide k2; clear k2)
    | (go_at_call 10; refine (num_any _ _).mono ?_; rintro e y3 ⟨rfl, h9⟩; have h9s := h9.symm; clear h9; subst h9s))
  go_ret
  exact HP2.out.done (Nat.le_succ c) (Nat.le_refl _)
end Go.Proofs.Ytcdmkbjibcahcab
