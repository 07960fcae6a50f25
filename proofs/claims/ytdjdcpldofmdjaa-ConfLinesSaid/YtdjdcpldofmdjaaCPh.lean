import Derived.Test.YtdjdcpldofmdjaaCPg
namespace Go.Proofs.Ytdjdcpldofmdjaa
open Go.RowKit
set_option linter.unusedVariables false
set_option linter.unusedSimpArgs false
set_option maxRecDepth 20000

def AllFrom (Pr : Nat → Oper → Prop) : Nat → List Oper → Prop
  | _, [] => True
  | k, o :: l => Pr k o ∧ AllFrom Pr (k + 1) l
theorem all_from {Pr : Nat → Oper → Prop} : ∀ (l : List Oper) (k : Nat), AllFrom Pr k l → ∀ (i : Nat) (o : Oper), l[i]? = some o → Pr (k + i) o
  | [], k, _, i, o, h => by simp at h
  | x :: l, k, h, 0, o, e => by simp at e; subst e; exact h.1
  | x :: l, k, h, i + 1, o, e => by
    have := all_from l (k + 1) h.2 i o (by simpa using e)
    rwa [show k + 1 + i = k + (i + 1) by omega] at this
theorem nodst {ops : List Oper} {t : Nat} (h : ops.all (fun o => dsti o != t) = true) (i : Nat) (o : Oper) (ho : ops.toArray[i]? = some o) : dsti o ≠ t := by
  have hm : o ∈ ops := List.mem_of_getElem? (by simpa using ho)
  simpa using List.all_eq_true.1 h o hm
theorem dstat {ops : List Oper} (h : (List.range 105).all (fun k => (ops[k]?.map dsti) == some (k + 12)) = true) {k : Nat} (hk : k < 105) : ∃ o, ops.toArray[k]? = some o ∧ dsti o = k + 12 := by
  have := List.all_eq_true.1 h k (List.mem_range.2 hk)
  simp only [beq_iff_eq, Option.map_eq_some_iff] at this
  obtain ⟨o, h1, h2⟩ := this
  exact ⟨o, by simpa using h1, h2⟩
theorem ev_tmp (a : Act) (t : Nat) : a.eval (.tmp t) = a.tmps.getD t undef := by
  simp [Act.eval, Array.getD_eq_getD_getElem?]
theorem low_ev {ops : List Oper} {a0 a : Act} {t : Nat} (hL : Low ops.toArray a0 a) (h : ops.all (fun o => dsti o != t) = true) {v : Value} (hv : a0.eval (.tmp t) = v) : a.eval (.tmp t) = v := by
  rw [← hv, ev_tmp, ev_tmp, Array.getD_eq_getD_getElem?, Array.getD_eq_getD_getElem?, hL.same t fun i o ho => nodst h i o ho]
set_option maxHeartbeats 4000000 in
theorem partsOf_any (p : Nat) (w : World) : Calls Try.prog 18 #[.pointer (some ⟨p, 0, none⟩)] w fun e w' => ∃ v, e = .returned v ∧ PtL w' v p ∧ Below w.heap.size w w' := by
  go_enter Try.func18, Try.ntmps18
  go_wp2_with fail
  obtain ⟨R, hR⟩ : ∃ R, w.heap.size = R := ⟨_, rfl⟩
  have hb1 : Below w.heap.size w (w.alloc (Obj.cells (nmcs rolesN).toArray 81)) := (Below.refl _ _).alloc (Nat.le_refl _) _
  have hb2 : Below (w.alloc (Obj.cells (nmcs rolesN).toArray 81)).heap.size (w.alloc (Obj.cells (nmcs rolesN).toArray 81)) ((w.alloc (Obj.cells (nmcs rolesN).toArray 81)).alloc (Obj.cells (nmcs disksN).toArray 81)) := (Below.refl _ _).alloc (Nat.le_refl _) _
  have hb12 := hb1.trans (hb2.mono hb1.size)
  have n3 : NmL ((w.alloc (Obj.cells (nmcs rolesN).toArray 81)).alloc (Obj.cells (nmcs disksN).toArray 81)) (.slice (some ⟨R, 0, none⟩) 2 2) rolesN := by
    refine NmL.below (nml_new (by rw [← hR]; exact Go.heap_alloc_new w _) rfl (by decide) fun i hi => ?_) hb2
    have hc : i = 0 ∨ i = 1 := by omega
    rcases hc with rfl | rfl <;> exact ⟨rfl, rfl⟩
  have n4 : NmL ((w.alloc (Obj.cells (nmcs rolesN).toArray 81)).alloc (Obj.cells (nmcs disksN).toArray 81)) (.slice (some ⟨R + 1, 0, none⟩) 3 3) disksN := by
    refine nml_new (by have := Go.heap_alloc_new (w.alloc (Obj.cells (nmcs rolesN).toArray 81)) (Obj.cells (nmcs disksN).toArray 81); rw [World.size_alloc, hR] at this; exact this) rfl (by decide) fun i hi => ?_
    have hc : i = 0 ∨ i = 1 ∨ i = 2 := by omega
    rcases hc with rfl | rfl | rfl <;> exact ⟨rfl, rfl⟩
  have HW : Hid (Below w.heap.size w ((w.alloc (Obj.cells (nmcs rolesN).toArray 81)).alloc (Obj.cells (nmcs disksN).toArray 81))) := hide hb12
  clear hb1 hb2 hb12
  rw [hR]
  change Code.wp _ _ _ _ ((w.alloc (Obj.cells (nmcs rolesN).toArray 81)).alloc (Obj.cells (nmcs disksN).toArray 81))
  generalize (w.alloc (Obj.cells (nmcs rolesN).toArray 81)).alloc (Obj.cells (nmcs disksN).toArray 81) = w0 at *
  refine wp_region_spec (by kernel_rfl) (by kernel_rfl) (fun x y => Below x.heap.size x y) ⟨rfl, rfl, rfl, Nat.le_refl _, fun _ _ => rfl⟩ (fun x y z h k => h.trans (k.mono h.size))
    (fun i v w => ((prtTab p R).getD i (.ex undef)).holds v w) (fun i v w w' h hb => Ds2.stays h hb) ?step ?done
  case step =>
    intro i o a w1 ho hL hG hd
    have ho2 := ho
    rw [List.getElem?_toArray] at ho2
    have hS : StepP p R (0 + i) o := by
      refine all_from (Pr := StepP p R) _ 0 ?_ i o ho2
      clear ho2 ho hL hG hd n3 n4
      simp only [List.append, AllFrom]
      exact ⟨s_mov0 p R _ _ rfl rfl,
      s_nil p R _ _ 12 rfl (by simp [Aft]) ⟨⟨rfl, by decide⟩, rfl⟩ rfl,
      s_fld p R _ _ 13 0 (by omega) rfl (by simp [Aft]) ⟨⟨rfl, by decide⟩, rfl⟩ rfl,
      s_cal p R _ _ 35 (.inl rfl) connsN conns_any rfl rfl,
      s_cho p R _ _ 14 15 0 connsN rfl (by simp [Aft]) (by simp [Aft]) ⟨⟨rfl, by decide⟩, rfl⟩ ⟨⟨rfl, by decide⟩, rfl⟩ rfl,
      s_ifc p R _ _ 16 0 connsN rfl (by simp [Aft]) ⟨⟨rfl, by decide⟩, rfl⟩ rfl,
      s_prt p R _ _ 17 0 connsN ⟨#[99, 115, 58]⟩ rfl (by simp [Aft]) ⟨⟨rfl, by decide⟩, rfl⟩ rfl,
      s_mov0 p R _ _ rfl rfl,
      s_nil p R _ _ 19 rfl (by simp [Aft]) ⟨⟨rfl, by decide⟩, rfl⟩ rfl,
      s_fld p R _ _ 20 1 (by omega) rfl (by simp [Aft]) ⟨⟨rfl, by decide⟩, rfl⟩ rfl,
      s_mov3 p R _ _ rfl rfl,
      s_cho p R _ _ 21 22 1 rolesN rfl (by simp [Aft]) (by simp [Aft]) ⟨⟨rfl, by decide⟩, rfl⟩ ⟨⟨rfl, by decide⟩, rfl⟩ rfl,
      s_ifc p R _ _ 23 1 rolesN rfl (by simp [Aft]) ⟨⟨rfl, by decide⟩, rfl⟩ rfl,
      s_prt p R _ _ 24 1 rolesN ⟨#[32, 114, 111, 58]⟩ rfl (by simp [Aft]) ⟨⟨rfl, by decide⟩, rfl⟩ rfl,
      s_mov0 p R _ _ rfl rfl,
      s_nil p R _ _ 26 rfl (by simp [Aft]) ⟨⟨rfl, by decide⟩, rfl⟩ rfl,
      s_fld p R _ _ 27 2 (by omega) rfl (by simp [Aft]) ⟨⟨rfl, by decide⟩, rfl⟩ rfl,
      s_mov3x p R _ _ rfl rfl,
      s_slc2 p R _ _ 29 rfl (by simp [Aft]) ⟨⟨rfl, by decide⟩, rfl⟩ rfl,
      s_nmd p R _ _ ⟨#[85, 110, 107, 110, 111, 119, 110]⟩ 2 rfl rfl,
      s_one p R _ _ 31 ⟨#[85, 110, 107, 110, 111, 119, 110]⟩ 2 rfl (by simp [Aft]) ⟨⟨rfl, by decide⟩, rfl⟩ rfl,
      s_app2 p R _ _ 30 32 ⟨#[85, 110, 107, 110, 111, 119, 110]⟩ 2 rfl (by simp [Aft]) (by simp [Aft]) ⟨⟨rfl, by decide⟩, rfl⟩ ⟨⟨rfl, by decide⟩, rfl⟩ rfl,
      s_cho p R _ _ 28 33 2 peersN rfl (by simp [Aft]) (by simp [Aft]) ⟨⟨rfl, by decide⟩, rfl⟩ ⟨⟨rfl, by decide⟩, rfl⟩ rfl,
      s_ifc p R _ _ 34 2 peersN rfl (by simp [Aft]) ⟨⟨rfl, by decide⟩, rfl⟩ rfl,
      s_prt p R _ _ 35 2 peersN ⟨#[47]⟩ rfl (by simp [Aft]) ⟨⟨rfl, by decide⟩, rfl⟩ rfl,
      s_mov0 p R _ _ rfl rfl,
      s_nil p R _ _ 37 rfl (by simp [Aft]) ⟨⟨rfl, by decide⟩, rfl⟩ rfl,
      s_fld p R _ _ 38 3 (by omega) rfl (by simp [Aft]) ⟨⟨rfl, by decide⟩, rfl⟩ rfl,
      s_mov4 p R _ _ rfl rfl,
      s_cho p R _ _ 39 40 3 disksN rfl (by simp [Aft]) (by simp [Aft]) ⟨⟨rfl, by decide⟩, rfl⟩ ⟨⟨rfl, by decide⟩, rfl⟩ rfl,
      s_ifc p R _ _ 41 3 disksN rfl (by simp [Aft]) ⟨⟨rfl, by decide⟩, rfl⟩ rfl,
      s_prt p R _ _ 42 3 disksN ⟨#[32, 100, 115, 58]⟩ rfl (by simp [Aft]) ⟨⟨rfl, by decide⟩, rfl⟩ rfl,
      s_mov0 p R _ _ rfl rfl,
      s_nil p R _ _ 44 rfl (by simp [Aft]) ⟨⟨rfl, by decide⟩, rfl⟩ rfl,
      s_fld p R _ _ 45 4 (by omega) rfl (by simp [Aft]) ⟨⟨rfl, by decide⟩, rfl⟩ rfl,
      s_mov4x p R _ _ rfl rfl,
      s_slc3 p R _ _ 47 rfl (by simp [Aft]) ⟨⟨rfl, by decide⟩, rfl⟩ rfl,
      s_nmd p R _ _ ⟨#[68, 85, 110, 107, 110, 111, 119, 110]⟩ 3 rfl rfl,
      s_one p R _ _ 49 ⟨#[68, 85, 110, 107, 110, 111, 119, 110]⟩ 3 rfl (by simp [Aft]) ⟨⟨rfl, by decide⟩, rfl⟩ rfl,
      s_app3 p R _ _ 48 50 ⟨#[68, 85, 110, 107, 110, 111, 119, 110]⟩ 3 rfl (by simp [Aft]) (by simp [Aft]) ⟨⟨rfl, by decide⟩, rfl⟩ ⟨⟨rfl, by decide⟩, rfl⟩ rfl,
      s_cho p R _ _ 46 51 4 pdsksN rfl (by simp [Aft]) (by simp [Aft]) ⟨⟨rfl, by decide⟩, rfl⟩ ⟨⟨rfl, by decide⟩, rfl⟩ rfl,
      s_ifc p R _ _ 52 4 pdsksN rfl (by simp [Aft]) ⟨⟨rfl, by decide⟩, rfl⟩ rfl,
      s_prt p R _ _ 53 4 pdsksN ⟨#[47]⟩ rfl (by simp [Aft]) ⟨⟨rfl, by decide⟩, rfl⟩ rfl,
      s_mov0 p R _ _ rfl rfl,
      s_nil p R _ _ 55 rfl (by simp [Aft]) ⟨⟨rfl, by decide⟩, rfl⟩ rfl,
      s_fld p R _ _ 56 5 (by omega) rfl (by simp [Aft]) ⟨⟨rfl, by decide⟩, rfl⟩ rfl,
      s_cal p R _ _ 36 (.inr rfl) protsN prots_any rfl rfl,
      s_cho p R _ _ 57 58 5 protsN rfl (by simp [Aft]) (by simp [Aft]) ⟨⟨rfl, by decide⟩, rfl⟩ ⟨⟨rfl, by decide⟩, rfl⟩ rfl,
      s_ifc p R _ _ 59 5 protsN rfl (by simp [Aft]) ⟨⟨rfl, by decide⟩, rfl⟩ rfl,
      s_prt p R _ _ 60 5 protsN ⟨#[32]⟩ rfl (by simp [Aft]) ⟨⟨rfl, by decide⟩, rfl⟩ rfl,
      s_mov0 p R _ _ rfl rfl,
      s_nil p R _ _ 62 rfl (by simp [Aft]) ⟨⟨rfl, by decide⟩, rfl⟩ rfl,
      s_fld p R _ _ 63 6 (by omega) rfl (by simp [Aft]) ⟨⟨rfl, by decide⟩, rfl⟩ rfl,
      s_cnt p R _ _ 64 6 rfl (by simp [Aft]) ⟨⟨rfl, by decide⟩, rfl⟩ rfl,
      s_ifn p R _ _ 65 6 rfl (by simp [Aft]) ⟨⟨rfl, by decide⟩, rfl⟩ rfl,
      s_prn p R _ _ 66 6 ⟨#[32, 110, 115, 58]⟩ rfl (by simp [Aft]) ⟨⟨rfl, by decide⟩, rfl⟩ rfl,
      s_mov0 p R _ _ rfl rfl,
      s_nil p R _ _ 68 rfl (by simp [Aft]) ⟨⟨rfl, by decide⟩, rfl⟩ rfl,
      s_fld p R _ _ 69 7 (by omega) rfl (by simp [Aft]) ⟨⟨rfl, by decide⟩, rfl⟩ rfl,
      s_cnt p R _ _ 70 7 rfl (by simp [Aft]) ⟨⟨rfl, by decide⟩, rfl⟩ rfl,
      s_ifn p R _ _ 71 7 rfl (by simp [Aft]) ⟨⟨rfl, by decide⟩, rfl⟩ rfl,
      s_prn p R _ _ 72 7 ⟨#[32, 110, 114, 58]⟩ rfl (by simp [Aft]) ⟨⟨rfl, by decide⟩, rfl⟩ rfl,
      s_mov0 p R _ _ rfl rfl,
      s_nil p R _ _ 74 rfl (by simp [Aft]) ⟨⟨rfl, by decide⟩, rfl⟩ rfl,
      s_fld p R _ _ 75 8 (by omega) rfl (by simp [Aft]) ⟨⟨rfl, by decide⟩, rfl⟩ rfl,
      s_cnt p R _ _ 76 8 rfl (by simp [Aft]) ⟨⟨rfl, by decide⟩, rfl⟩ rfl,
      s_ifn p R _ _ 77 8 rfl (by simp [Aft]) ⟨⟨rfl, by decide⟩, rfl⟩ rfl,
      s_prn p R _ _ 78 8 ⟨#[32, 100, 119, 58]⟩ rfl (by simp [Aft]) ⟨⟨rfl, by decide⟩, rfl⟩ rfl,
      s_mov0 p R _ _ rfl rfl,
      s_nil p R _ _ 80 rfl (by simp [Aft]) ⟨⟨rfl, by decide⟩, rfl⟩ rfl,
      s_fld p R _ _ 81 9 (by omega) rfl (by simp [Aft]) ⟨⟨rfl, by decide⟩, rfl⟩ rfl,
      s_cnt p R _ _ 82 9 rfl (by simp [Aft]) ⟨⟨rfl, by decide⟩, rfl⟩ rfl,
      s_ifn p R _ _ 83 9 rfl (by simp [Aft]) ⟨⟨rfl, by decide⟩, rfl⟩ rfl,
      s_prn p R _ _ 84 9 ⟨#[32, 100, 114, 58]⟩ rfl (by simp [Aft]) ⟨⟨rfl, by decide⟩, rfl⟩ rfl,
      s_mov0 p R _ _ rfl rfl,
      s_nil p R _ _ 86 rfl (by simp [Aft]) ⟨⟨rfl, by decide⟩, rfl⟩ rfl,
      s_fld p R _ _ 87 10 (by omega) rfl (by simp [Aft]) ⟨⟨rfl, by decide⟩, rfl⟩ rfl,
      s_cnt p R _ _ 88 10 rfl (by simp [Aft]) ⟨⟨rfl, by decide⟩, rfl⟩ rfl,
      s_ifn p R _ _ 89 10 rfl (by simp [Aft]) ⟨⟨rfl, by decide⟩, rfl⟩ rfl,
      s_prn p R _ _ 90 10 ⟨#[32, 97, 108, 58]⟩ rfl (by simp [Aft]) ⟨⟨rfl, by decide⟩, rfl⟩ rfl,
      s_mov0 p R _ _ rfl rfl,
      s_nil p R _ _ 92 rfl (by simp [Aft]) ⟨⟨rfl, by decide⟩, rfl⟩ rfl,
      s_fld p R _ _ 93 11 (by omega) rfl (by simp [Aft]) ⟨⟨rfl, by decide⟩, rfl⟩ rfl,
      s_cnt p R _ _ 94 11 rfl (by simp [Aft]) ⟨⟨rfl, by decide⟩, rfl⟩ rfl,
      s_ifn p R _ _ 95 11 rfl (by simp [Aft]) ⟨⟨rfl, by decide⟩, rfl⟩ rfl,
      s_prn p R _ _ 96 11 ⟨#[32, 97, 112, 58]⟩ rfl (by simp [Aft]) ⟨⟨rfl, by decide⟩, rfl⟩ rfl,
      s_mov0 p R _ _ rfl rfl,
      s_nil p R _ _ 98 rfl (by simp [Aft]) ⟨⟨rfl, by decide⟩, rfl⟩ rfl,
      s_fld p R _ _ 99 12 (by omega) rfl (by simp [Aft]) ⟨⟨rfl, by decide⟩, rfl⟩ rfl,
      s_cnt p R _ _ 100 12 rfl (by simp [Aft]) ⟨⟨rfl, by decide⟩, rfl⟩ rfl,
      s_ifn p R _ _ 101 12 rfl (by simp [Aft]) ⟨⟨rfl, by decide⟩, rfl⟩ rfl,
      s_prn p R _ _ 102 12 ⟨#[32, 117, 97, 58]⟩ rfl (by simp [Aft]) ⟨⟨rfl, by decide⟩, rfl⟩ rfl,
      s_mov0 p R _ _ rfl rfl,
      s_nil p R _ _ 104 rfl (by simp [Aft]) ⟨⟨rfl, by decide⟩, rfl⟩ rfl,
      s_fld p R _ _ 105 13 (by omega) rfl (by simp [Aft]) ⟨⟨rfl, by decide⟩, rfl⟩ rfl,
      s_cnt p R _ _ 106 13 rfl (by simp [Aft]) ⟨⟨rfl, by decide⟩, rfl⟩ rfl,
      s_ifn p R _ _ 107 13 rfl (by simp [Aft]) ⟨⟨rfl, by decide⟩, rfl⟩ rfl,
      s_prn p R _ _ 108 13 ⟨#[32, 101, 112, 58]⟩ rfl (by simp [Aft]) ⟨⟨rfl, by decide⟩, rfl⟩ rfl,
      s_mov0 p R _ _ rfl rfl,
      s_nil p R _ _ 110 rfl (by simp [Aft]) ⟨⟨rfl, by decide⟩, rfl⟩ rfl,
      s_fld p R _ _ 111 14 (by omega) rfl (by simp [Aft]) ⟨⟨rfl, by decide⟩, rfl⟩ rfl,
      s_cnt p R _ _ 112 14 rfl (by simp [Aft]) ⟨⟨rfl, by decide⟩, rfl⟩ rfl,
      s_ifn p R _ _ 113 14 rfl (by simp [Aft]) ⟨⟨rfl, by decide⟩, rfl⟩ rfl,
      s_prn p R _ _ 114 14 ⟨#[32, 111, 111, 115, 58]⟩ rfl (by simp [Aft]) ⟨⟨rfl, by decide⟩, rfl⟩ rfl,
      s_fin p R _ _ rfl (by simp [Aft]) rfl,
      s_asg p R _ _ rfl (by simp [Aft]) rfl, trivial⟩
    rw [Nat.zero_add] at hS
    refine hS a w1 _ (low_ev hL (by kernel_rfl) rfl) (low_ev hL (by kernel_rfl) rfl) (low_ev hL (by kernel_rfl) rfl) (n3.below hG) (n4.below hG) fun e he hb hlt => ?_
    obtain ⟨o', ho', hd'⟩ := dstat (by kernel_rfl) hlt
    have := hd e he hb o' ho'
    rw [hd'] at this
    rw [ev_tmp]
    exact this
  case done =>
    intro a w1 hL hG hS
    have hfin : PtL w1 (a.tmps.getD 2 undef) p := hS 105 _ rfl
    have hdf := hL.defers
    clear hL hS
    rename_i Q' K hK
    refine hK a w1 (wp_ret ?_)
    refine bodyPost_ret (results_tmp rfl _ _ _) hdf ?_
    exact ⟨_, rfl, hfin, HW.out.trans (hG.mono HW.out.size)⟩
end Go.Proofs.Ytdjdcpldofmdjaa
