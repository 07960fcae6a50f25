import Derived.Test.YtglajdmkbckjjabDoorBWd
namespace Go.Proofs.YtglajdmkbckjjabDoor
open Go.RowKit
set_option linter.unusedVariables false
set_option linter.unusedSimpArgs false
set_option maxRecDepth 20000

/-- one element behind an owned row: in new memory, and all that was stays; or in place -/
theorem run_app8 {P : Program} (w : World) (t ty e : TypeId) (i : TypeInfo) (z : Value) (bytes : Nat) (ht : P.underlying t = some (.slice e)) (hi : P.info? e = some i) (hz : i.zero = some z) (hsize : i.size = 1) (hby : i.bytes = bytes) (hzs : z.cells.size = 1)
    (v : Value) (n : Nat) (xs : List Value) (hown : w.ownsRow 0 e 1 v n xs) (a : Addr) (c : Nat) (x : Value) (hnews : ∀ j u, [x][j]? = some u → w.cell? (a.add j) = some u) (h1 : x.oneCell' = true) (h63 : n + 1 ≤ maxLen) (hbytes : ((n + 1) + (n + 1) / 4 + 192) * bytes ≤ 281474976710656) :
    ∃ v' w', (Builtin.append_ #[t, t] ty #[v, .slice (some a) 1 c]).run P w = .ok v' w' ∧ w'.ownsRow 0 e 1 v' (n + 1) (xs ++ [x]) ∧
      ((v'.ownBlock = some w.heap.size ∧ w.grownBy w' none) ∨ (∃ g, v.ownBlock = some g ∧ v'.ownBlock = some g ∧ w.grownBy w' (some g))) := by
  obtain ⟨v', w', hr, ho, hg, -⟩ := run_append_own_wide (P := P) w 0 t ty e i z 1 bytes ht hi hz hsize hby hzs (by decide) v n xs hown a 1 c [x] rfl hnews (by simp [h1]) h63 hbytes (Nat.zero_le _)
  refine ⟨v', w', hr, ho, ?_⟩
  have h63' : n + 1 ≤ 9223372036854775807 := by simp only [maxLen] at h63; omega
  rcases hown.2 with ⟨rfl, rfl⟩ | ⟨g, cap, cur, rfl, hbg, hgc, hnc, hcm, hcs, htake⟩
  · have hr2 := run_append_nil (P := P) w t ty e i z ht hi hz a 1 c [x] (by rw [hsize]; rfl) hnews (by decide) (by decide) (by
      rw [hby]
      exact Nat.le_trans (Nat.mul_le_mul_right _ (by decide)) hbytes)
    rw [hr] at hr2
    injection hr2 with e1 e2
    subst e1 e2
    exact .inl ⟨rfl, ⟨rfl, rfl, rfl, by simp, fun k hk _ => heap_alloc_old w.drew _ k hk⟩⟩
  · by_cases hroom : n + 1 ≤ cap
    · have hr2 := run_append_room (P := P) w t ty e i ht hi g n cap cur hgc a 1 c [x] (by rw [hsize]; rfl) hnews (by simp [h1]) hroom (by rw [hsize]; simp; omega)
      rw [hr] at hr2
      injection hr2 with e1 e2
      exact .inr ⟨g, rfl, by rw [e1]; rfl, hg⟩
    · have holds : ∀ j u, xs[j]? = some u → w.cell? ((⟨g, 0, none⟩ : Addr).add j) = some u := hown.cells (g := g) rfl
      have hr2 := run_append_grow (P := P) w t ty e i z ht hi hz ⟨g, 0, none⟩ n cap xs (by rw [hsize]; exact hown.1) holds a 1 c [x] (by rw [hsize]; rfl) hnews (by omega) (by omega) (by rw [hby]; exact growslice_fits_wide (by omega) hbytes)
      rw [hr] at hr2
      injection hr2 with e1 e2
      subst e1 e2
      exact .inl ⟨rfl, ⟨rfl, rfl, rfl, by simp, fun k hk _ => heap_alloc_old w.drew _ k hk⟩⟩
theorem wpList_app8 {P : Program} (w : World) {ops : Array Oper} {rest : List Oper} {o : Oper} {a : Act} {Q : Exit → Act → World → Prop} (hgd : o.guard = none) (s x : Operand) (t : TypeId)
    (ho : o.op = .call { callee := .builtin .append, args := #[s, x], argTypes := #[t, t] })
    (e : TypeId) (i : TypeInfo) (z : Value) (bytes : Nat) (ht : P.underlying t = some (.slice e)) (hi : P.info? e = some i) (hz : i.zero = some z) (hsize : i.size = 1) (hby : i.bytes = bytes) (hzs : z.cells.size = 1)
    (v : Value) (n : Nat) (xs : List Value) (hs : a.eval s = v) (hown : w.ownsRow 0 e 1 v n xs) (ad : Addr) (c : Nat) (y : Value) (hx : a.eval x = .slice (some ad) 1 c) (hnews : ∀ j u, [y][j]? = some u → w.cell? (ad.add j) = some u) (h1 : y.oneCell' = true) (h63 : n + 1 ≤ maxLen) (hbytes : ((n + 1) + (n + 1) / 4 + 192) * bytes ≤ 281474976710656)
    (h : ∀ v' w', w'.ownsRow 0 e 1 v' (n + 1) (xs ++ [y]) → ((v'.ownBlock = some w.heap.size ∧ w.grownBy w' none) ∨ (∃ g, v.ownBlock = some g ∧ v'.ownBlock = some g ∧ w.grownBy w' (some g))) → wpList P ops Q rest (a.put o.dst v') w') :
    wpList P ops Q (o :: rest) a w := by
  refine wpList_plain hgd fun K hK => ?_
  obtain ⟨v', w', hr, h2, h3⟩ := run_app8 (P := P) w t o.type e i z bytes ht hi hz hsize hby hzs v n xs hown ad c y hnews h1 h63 hbytes
  unfold Oper.wp execOp
  simp only [ho, resolve, invoke, builtin, Sem.run_bind, Sem.run_pure, Result.andThen_ok, List.map_toArray, List.map_cons, List.map_nil, hs, hx, hr]
  exact hK _ _ (h v' w' h2 h3)

theorem Tryd.infoB : (Tryd.prog.info? 5).map (fun i => (i.zero, i.size, i.bytes)) = some (some (.int .u8 0), 1, 1) := by kernel_rfl
theorem infoBs : ∃ i, Tryd.prog.info? 5 = some i ∧ i.zero = some (.int .u8 0) ∧ i.size = 1 ∧ i.bytes = 1 := by
  have h := Tryd.infoB
  cases hi : Tryd.prog.info? 5 with
  | none => rw [hi] at h; simp at h
  | some i => rw [hi] at h; simp at h; exact ⟨i, rfl, h.1, h.2.1, h.2.2⟩
theorem new_one (w : World) (x : Value) : ∀ j u, [x][j]? = some u → (w.alloc (.cells #[x] 5)).cell? ((⟨w.heap.size, 0, none⟩ : Addr).add j) = some u := fun j u h => by
  have : (w.alloc (.cells #[x] 5)).heap[w.heap.size]? = some (.cells #[x] 5 (0, 0)) := Go.heap_alloc_new _ _
  rw [Addr.add_lit, cell_of_row _ _ _ _ _ _ this]
  simpa using h
set_option maxHeartbeats 2000000 in
theorem wdigit_more {w0 w : World} {p : Nat} {cv : Value} {c : List Nat} {D : List Bool} (h : WS w0 w p cv c D) (d : Bool) (hD : D.length ≤ 10000000) (h8 : D.length % 8 = 0) :
    Calls Tryd.prog 26 #[.pointer (some ⟨p, 0, none⟩), .int .u64 ((d.toNat : Nat) : Int)] w fun e w' => e = .returned (.tuple #[]) ∧ ∃ cv' c', WS w0 w' p cv' c' (D ++ [d]) ∧ TF p w w' := by
    obtain ⟨i0, hi0, hz0, hz1, hz2⟩ := infoBs
    have hcl := h.wrt.len
    have c0 : w.cell? ⟨p, 0, none⟩ = some cv := cell_of_row _ _ _ _ _ _ h.row
    have c1 : w.cell? ⟨p, 1, none⟩ = some (.int .i64 (D.length : Int)) := cell_of_row _ _ _ _ _ _ h.row
    obtain ⟨a0, cap0, rfl, hcc, hcc2⟩ : ∃ a cap, cv = .slice a c.length cap ∧ c.length ≤ cap ∧ cap ≤ maxLen := by
      rcases h.own.2 with ⟨rfl, hz⟩ | ⟨g, cap, cur, rfl, _, _, h1, h2, _⟩
      · exact ⟨_, _, by rw [hz], by omega, Nat.zero_le _⟩
      · exact ⟨_, _, rfl, h1, h2⟩
    have o3 := h.own.alloc (.cells #[.int .u8 0] 5)
    have h8i : ((D.length : Int) % 8 == 0) = true := by simp; omega
    have HM := hide fun (w4 : World) (v4 : Value) ho hu => h.more (w4 := w4) (v4 := v4) h8 ho hu
    have HCL := hide hcl
    have hb7 : c.length ≤ 1250001 := by omega
    clear hcl h
    go_enter Tryd.func26, Tryd.ntmps26
    go_wp2_with (at_builtin; refine wpList_app8 _ rfl (.tmp 14) (.tmp 15) 23 rfl 5 i0 (.int .u8 0) 1 Tryd.underlying23 hi0 hz0 hz1 hz2 rfl _ _ _ rfl o3 ⟨w.heap.size, 0, none⟩ 1 (.int .u8 0) rfl (new_one w _) rfl (by unfold maxLen; omega) (by omega) ?_)
    intro v4 w4 ho4 hup4
    obtain ⟨g, cap, rfl, hQ, hTF, k0, kf⟩ := HM.out w4 v4 ho4 (by unfold Upn; rw [World.size_alloc]; exact hup4)
    have HQ := hide hQ
    have HTF := hide hTF
    clear ho4 hup4 HM o3 hQ hTF
    go_wp2_with fail
    have hlc : (c ++ [0]).length = c.length + 1 := by simp
    clear k0 kf c0 c1
    generalize w4.setCell ⟨p, 0, none⟩ (.slice (some ⟨g, 0, none⟩) (c.length + 1) cap) = W at *
    generalize c ++ [0] = cc at *
    rw [← hlc]
    clear hlc hcc hcc2 hb7 HCL
    have h := HQ.out
    clear HQ
    obtain ⟨hK0, -, -⟩ := wrt_put h.byt h.dg h.m8 d
    have HPUT := hide (h.put d ((D.length : Int) + 1) rfl)
    have c0 : W.cell? ⟨p, 0, none⟩ = some (.slice (some ⟨g, 0, none⟩) cc.length cap) := cell_of_row _ _ _ _ _ _ h.row
    have c1 : W.cell? ⟨p, 1, none⟩ = some (.int .i64 (D.length : Int)) := cell_of_row _ _ _ _ _ _ h.row
    have f1 : W.frozen? ⟨p, 1, none⟩ = false := frozen_of_row _ _ _ _ _ h.row
    have c2 := h.cell hK0
    have hx : cc.getD (D.length / 8) 0 < 256 := by
      have : cc.getD (D.length / 8) 0 = cc[D.length / 8] := by simp [List.getD, hK0]
      rw [this]
      exact h.byt _ (List.getElem_mem hK0)
    obtain ⟨cs, hcs⟩ := h.blk
    have f2 : W.frozen? ⟨g, D.length / 8, none⟩ = false := frozen_of_row _ _ _ _ _ hcs
    have hgp : g ≠ p := fun e => by have := h.row; rw [← e, hcs] at this; simp at this
    have hcap : cc.length ≤ cap ∧ cap ≤ 9223372036854775807 := by
      rcases h.own.2 with ⟨hv, hz⟩ | ⟨g', cap', cur, e, hg0, hgc, hnc, hcm, -⟩
      · simp at hv
      · simp only [Value.slice.injEq] at e
        unfold maxLen at hcm
        omega
    have hM := hD
    obtain ⟨K, hK⟩ : ∃ K, D.length / 8 = K := ⟨_, rfl⟩
    obtain ⟨J, hJ⟩ : ∃ J, D.length % 8 = J := ⟨_, rfl⟩
    obtain ⟨S, hS⟩ : ∃ S, 7 - J = S := ⟨_, rfl⟩
    have hJ8 : J < 8 := by omega
    have hd1 : (D.length : Int) / 8 = (K : Int) := by omega
    have hd2 : (D.length : Int).tdiv 8 = (K : Int) := by rw [Int.tdiv_eq_ediv_of_nonneg (by omega)]; exact hd1
    have hd3 : IntKind.i64.wrap (K : Int) = (K : Int) := by simp [IntKind.wrap, IntKind.bits, IntKind.signed]; omega
    have hd4 : IntKind.i64.wrap ((D.length : Int) / 8) = (K : Int) := by rw [hd1]; exact hd3
    have hrm : (D.length : Int) % 8 = (J : Int) := by omega
    have hrm1 : (D.length : Int).tmod 8 = (J : Int) := by rw [Int.tmod_eq_emod_of_nonneg (by omega)]; exact hrm
    have hrm2 : IntKind.i64.wrap (J : Int) = (J : Int) := by simp [IntKind.wrap, IntKind.bits, IntKind.signed]; omega
    have hrm3 : IntKind.i64.wrap ((D.length : Int) % 8) = (J : Int) := by rw [hrm]; exact hrm2
    have hsb : (7 : Int) - (J : Int) = (S : Int) := by omega
    have hsb1 : IntKind.i64.wrap (S : Int) = (S : Int) := by simp [IntKind.wrap, IntKind.bits, IntKind.signed]; omega
    have hsb2 : IntKind.i64.wrap ((7 : Int) - (J : Int)) = (S : Int) := by rw [hsb]; exact hsb1
    have hdv : IntKind.u8.wrap ((d.toNat : Nat) : Int) = ((d.toNat : Nat) : Int) := by cases d <;> rfl
    have hpw : d.toNat * 2 ^ S < 256 := by
      have h1 : d.toNat ≤ 1 := by cases d <;> simp
      have h2 : 2 ^ S ≤ 2 ^ 7 := Nat.pow_le_pow_right (by decide) (by omega)
      have h3 : d.toNat * 2 ^ S ≤ 1 * 2 ^ S := Nat.mul_le_mul_right _ h1
      omega
    have hsh : Op.shift .shl .u8 ((d.toNat : Nat) : Int) .i64 (S : Int) = (pure (.int .u8 ((d.toNat * 2 ^ S : Nat) : Int)) : Sem Value) := by
      rw [shift_shl .u8 .i64 ((d.toNat : Nat) : Int) (S : Int) (by omega) (by simp [IntKind.bits]; omega), Int.toNat_natCast]
      congr 2
      have e : ((d.toNat : Nat) : Int) * 2 ^ S = ((d.toNat * 2 ^ S : Nat) : Int) := by simp
      rw [e, IntKind.wrap_u8']
      omega
    have hkc : (0 : Int) ≤ (K : Int) := by omega
    rw [hK] at c2 hx f2 HPUT hK0
    rw [hJ] at HPUT
    have hkl : (K : Int) < (cc.length : Int) := by omega
    have hor : bits .or .u8 ((cc.getD K 0 : Nat) : Int) ((d.toNat * 2 ^ S : Nat) : Int) = ((orD (cc.getD K 0) J d : Nat) : Int) := by
      rw [u8_or_nat _ _ hx hpw]
      unfold orD
      rw [hS]
    have c1x : ∀ v, (W.drew.setCell ⟨g, K, none⟩ v).cell? ⟨p, 1, none⟩ = some (.int .i64 (D.length : Int)) := fun v => by
      rw [World.cell?_of_block (Go.heap_setCell_other _ _ _ _ (by show p ≠ g; exact Ne.symm hgp))]
      exact c1
    have f1x : ∀ v, (W.drew.setCell ⟨g, K, none⟩ v).frozen? ⟨p, 1, none⟩ = false := fun v => by
      rw [World.frozen?_of_block (Go.heap_setCell_other _ _ _ _ (by show p ≠ g; exact Ne.symm hgp))]
      exact f1
    have hor2 : bits .or .u8 ((cc.getD K 0 : Nat) : Int) (((d.toNat : Nat) : Int) * 2 ^ S % 256) = ((orD (cc.getD K 0) J d : Nat) : Int) := by
      have e : ((d.toNat : Nat) : Int) * 2 ^ S = ((d.toNat * 2 ^ S : Nat) : Int) := by simp
      have e2 : ((d.toNat * 2 ^ S : Nat) : Int) % 256 = ((d.toNat * 2 ^ S : Nat) : Int) := by omega
      rw [e, e2]
      exact hor
    generalize cc.getD K 0 = x at *
    generalize orD x J d = y at *
    generalize d.toNat * 2 ^ S = z at *
    clear h hcs h8i
    have HDD := hide hK
    clear hK hJ hS
    generalize hdl : D.length = M at *
    clear hdl
    refine wp_still_tail 21 (by kernel_rfl) (by kernel_rfl) ?_
    simp only [List.take_succ_cons, List.take_zero, List.drop_succ_cons, List.drop_zero]
    repeat still_step
    refine wpStill_nil ?_
    have c1y := c1x (.int .u8 (y : Int))
    have f1y := f1x (.int .u8 (y : Int))
    clear c1x f1x
    go_wp2_with fail
    go_end0
    exact ⟨rfl, _, _, HPUT.out.1, HTF.out.trans HPUT.out.2⟩
end Go.Proofs.YtglajdmkbckjjabDoor
