import Derived.Test.YthkkinmegileaaaSLru6
namespace Go.Proofs.Ythkkinmegileaaa.St
open Go.RowKit Go.Sort
set_option linter.unusedVariables false
set_option linter.unusedSimpArgs false
set_option maxRecDepth 20000

set_option maxHeartbeats 2000000 in
/-- a key for one that has no reference -/
theorem replace_any {w : World} {p bm : Nat} {kv rv iv : Value} {S : LS} {M s : Nat} {key old : Int} (h : LRep w p bm kv rv iv S) (hS : S.Ok M) (hM : M ≤ 4611686018427387904) (hk : i64ok key) (hn : key ∉ S.ks) (ho : S.ks[s]? = some old) (hr : S.rs[s]? = some 0) :
    Calls Try.prog 53 #[.pointer (some ⟨p, 0, none⟩), .int .i64 (s : Int), .string (nm key)] w fun e w' => e = .returned (.string (nm old)) ∧ ∃ iv', LRep w' p bm kv rv iv' (({ S with mks := S.ks.set s key, ks := S.ks.set s key } : LS).take s) ∧ iv'.ownBlock = iv.ownBlock ∧ Chg (LU p bm kv rv iv) w w' := by
  have hsl : s < S.ks.length := (List.getElem?_eq_some_iff.1 ho).1
  have hkl := hS.kl
  have h16 := hS.s2
  have hs16 : s < 16 := by omega
  have hkey := keyS hk
  have hkeyo := keyS (hS.kb old (List.mem_of_getElem? ho))
  obtain ⟨D, hown, hDs, hD1, hD2⟩ := h.mp
  rw [hS.me] at hDs hD1 hD2
  have hv : plainElem (H := Unit) Try.prog 3 (.int .i64 (s : Int)) = some (.lit (.int .i64 (s : Int)), []) := plainElem_int Try.underlying3 (wf_i64 ⟨by omega, by omega⟩)
  obtain ⟨g, cap, cs, ekv, hc, hcs⟩ := row_atS h.ko ho
  have hcap : S.ks.length ≤ cap ∧ cap ≤ 9223372036854775807 := by
    obtain ⟨a', c', e', q1, q2⟩ := rowForm (ekv ▸ h.ko)
    simp only [Value.slice.injEq] at e'
    unfold maxLen at q2
    omega
  obtain ⟨hcap1, hcap2⟩ := hcap
  have c1 : w.cell? ⟨p, 1, none⟩ = some (.map (some bm)) := h.c 1
  subst ekv
  have c2 : w.cell? ⟨p, 2, none⟩ = some (.slice (some ⟨g, 0, none⟩) S.ks.length cap) := h.c 2
  have HMAP : Hid (∀ w1 w2, w.mapTurned w1 bm → w2.ownsMap Try.prog 9 (plainElem Try.prog 3) bm (16 + 1) ((D.del (kL old)).put (kL key) (.lit (.int .i64 (s : Int)))) → w1.grownBy w2 (some bm) → LRep w2 p bm (.slice (some ⟨g, 0, none⟩) S.ks.length cap) rv iv { S with mks := S.ks.set s key } ∧ Chg (LU p bm (.slice (some ⟨g, 0, none⟩) S.ks.length cap) rv iv) w w2) := hide fun w1 w2 q1 q2 q3 => by
    have q4 := q1.grown
    have hg : w.grownBy w2 (some bm) := ⟨q3.os.trans q4.os, q3.tape.trans q4.tape, q3.output.trans q4.output, Nat.le_trans q4.size q3.size, fun k hk hne => (q3.block k (Nat.lt_of_lt_of_le hk q4.size) hne).trans (q4.block k hk hne)⟩
    exact h.turnM (MP.swap hDs hD1 hD2 (hown.tidy kStr) hS.kd hn ho (by omega) q2) hg
  have HP1 : Hid (∀ w1, w.mapTurned w1 bm → w1.cell? ⟨p, 1, none⟩ = some (.map (some bm))) := hide fun w1 q1 => by
    rw [World.cell?_of_block (a := ⟨p, 1, none⟩) (q1.grown.block p (h.lt p (.inl rfl)) fun e => h.ap.1 (Option.some.inj e))]
    exact c1
  have HOK : Hid (({ S with mks := S.ks.set s key, ks := S.ks.set s key } : LS).Ok M) := hide (hS.setk hk hn)
  have HRS := hide hr
  have HFR : Hid (∀ w2, LRep w2 p bm (.slice (some ⟨g, 0, none⟩) S.ks.length cap) rv iv { S with mks := S.ks.set s key } → w2.cell? ⟨g, s, none⟩ = some (.string (nm old)) ∧ w2.frozen? ⟨g, s, none⟩ = false ∧ w2.cell? ⟨p, 2, none⟩ = some (.slice (some ⟨g, 0, none⟩) S.ks.length cap)) := hide fun w2 q => by
    obtain ⟨g', cap', cs', e', hc', hcs'⟩ := row_atS q.ko ho
    simp only [Value.slice.injEq, Option.some.injEq, Addr.mk.injEq] at e'
    obtain ⟨⟨rfl, -, -⟩, -, -⟩ := e'
    exact ⟨hc', frozen_of_row _ _ _ _ 9 hcs', q.c 2⟩
  have HTK : Hid (∀ w3, LRep w3 p bm (.slice (some ⟨g, 0, none⟩) S.ks.length cap) rv iv ({ S with mks := S.ks.set s key, ks := S.ks.set s key } : LS) → Calls Try.prog 51 #[.pointer (some ⟨p, 0, none⟩), .int .i64 (s : Int)] w3 fun e w' => e = .returned (.tuple #[]) ∧ ∃ iv', LRep w' p bm (.slice (some ⟨g, 0, none⟩) S.ks.length cap) rv iv' (({ S with mks := S.ks.set s key, ks := S.ks.set s key } : LS).take s) ∧ iv'.ownBlock = iv.ownBlock ∧ Chg (LU p bm (.slice (some ⟨g, 0, none⟩) S.ks.length cap) rv iv) w3 w') := hide fun w3 q => take_any q HOK.out hM HRS.out
  have HLEN : Hid ((S.ks.set s key).length = S.ks.length) := hide (by simp)
  clear h hS hk hn hD1 hD2 hDs hr ho hcs hkl
  go_enter Try.func53, Try.ntmps53
  go_wp2_with (at_delete; refine wpList_delete_own _ rfl _ _ 65 9 rfl 3 kStr Try.underlying65 _ bm 16 D rfl hown _ (kL old) rfl hkeyo ?_)
  intro w1 q1 q2
  have d1 := HP1.out w1 q2
  go_wp2_with (at_mapUpdate; refine wpList_mapUpdate_own _ rfl _ _ _ 65 rfl 9 3 kStr Try.underlying65 _ bm 16 (D.del (kL old)) rfl q1 (by decide) _ _ (kL key) rfl rfl hkey (.lit (.int .i64 (s : Int))) [] hv ?_)
  intro w2 q3 q4
  obtain ⟨r1, r2⟩ := HMAP.out w1 w2 q2 q3 q4
  obtain ⟨d2, f2, d3⟩ := HFR.out w2 r1
  have t1 := LRep.setK (S := { S with mks := S.ks.set s key }) (key := key) r1 hsl
  have HT := hide (HTK.out _ (by
    have := t1.1
    simp only [List.length_set] at this
    exact this))
  have HCW := hide (r2.trans (t1.2.mono fun b _ e => .inr (.inr (.inl (by rw [e]; rfl)))))
  clear q1 q2 q3 q4 r1 r2 t1 HP1 HMAP HFR HTK d1
  go_wp2_with (first
    | (go_at_call 51; refine HT.out.mono ?_; rintro e w4 ⟨rfl, iv', z1, z2, z3⟩; have HR := hide (And.intro z1 (And.intro z2 (HCW.out.trans z3))); clear z1 z2 z3))
  go_ret
  exact ⟨rfl, _, HR.out.1, HR.out.2.1, HR.out.2.2⟩
end Go.Proofs.Ythkkinmegileaaa.St
