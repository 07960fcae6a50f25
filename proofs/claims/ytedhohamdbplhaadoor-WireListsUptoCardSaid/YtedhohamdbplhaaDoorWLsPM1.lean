import Derived.Test.YtedhohamdbplhaaDoorWLsPM0
import Derived.Test.YtedhohamdbplhaaDoorWApp
import Derived.ProofKit
import Derived.OpenShut
import Derived.ChangeOld
import Derived.SizedLaws
import Derived.ChangeSlices
import Derived.Deep.Slices
import Derived.ChangeSame
import Derived.Test.YtedhohamdbplhaaDoorWMay
import Derived.Test.YtedhohamdbplhaaDoorCards
import Derived.Test.YtedhohamdbplhaaDoorTie
import Derived.Lib.LaidTab
import Derived.Test.YtedhohamdbplhaaDoorWPk2
namespace Go.Proofs.YtedhohamdbplhaaDoor
open Go.RowKit
set_option linter.unusedVariables false
set_option linter.unusedSimpArgs false
set_option maxRecDepth 20000

set_option maxHeartbeats 400000 in
/-- what is copied has a block of its own, also where it is empty -/
theorem copied_at (w : World) (v : Value) (l : List Nat) (k : Nat) (hk : l.length = k) (h : BSl w v l) (hr : l.length ≤ 140737488355328) :
    Calls Tryd.prog 8 #[v] w fun e w' => ∃ g cap, e = .returned (.slice (some ⟨g, 0, none⟩) k cap) ∧ Own w' w.heap.size (.slice (some ⟨g, 0, none⟩) k cap) l ∧ g < w'.heap.size ∧ Below w.heap.size w w' := by
  have HO : Hid (Own (w.alloc (.cells #[] 5)) w.heap.size (.slice (some ⟨w.heap.size, 0, none⟩) 0 0) []) := hide ⟨World.ownsRow_made w #[] 0 (Nat.le_refl _) (by unfold maxLen; omega) rfl, by simp⟩
  have HW := hide ((Below.refl w.heap.size w).alloc (Nat.le_refl _) (.cells #[] 5))
  have HB := hide (h.below HW.out)
  obtain ⟨a, c, rfl, _⟩ := id h
  have HK := hide hk
  have HR := hide hr
  clear h hk hr
  go_enter Tryd.func8, Tryd.ntmps8
  go_wp2_with (at_builtin; refine wpList_app rfl (.tmp 3) (.tmp 4) rfl w.heap.size _ _ [] l rfl rfl HO.out HB.out (by have := HR.out; simp; omega) (by simp) ?_)
  intro v' w1 hown hbel hsz hnn
  have HN := hide (And.intro hown (And.intro hbel hnn))
  clear hown hbel hsz hnn
  go_wp2
  go_ret
  obtain ⟨hown, hbel, hnn⟩ := HN.out
  have hbb := HW.out.trans (hbel.mono (Nat.le_refl _))
  rcases id hown.1.2 with ⟨e, _⟩ | ⟨g, cap, cur, e, h1, hg, r⟩
  · exact absurd (hnn e) (by simp)
  · rw [HK.out] at e
    subst e
    exact ⟨g, cap, rfl, hown, (Array.getElem?_eq_some_iff.1 hg).1, hbb⟩
/-- a packet's cells -/
structure PC (CS : Array Value) : Prop where
  i : (Tryd.prog.info? 36).map (·.size) = some CS.size
  z : zPk.size = CS.size
  o : CS.all (·.oneCell') = true
theorem pc_of (c : Int) {p : PV} (hp : p.s.length = 32) (v : Value) (hv : v.oneCell' = true) : PC (.int .i64 c :: p.row v).toArray :=
  ⟨by rw [List.size_toArray, List.length_cons, row_len hp]; exact infoK, by show 43 = _; rw [List.size_toArray, List.length_cons, row_len hp], row_all' c p v hv⟩
theorem dPv_n {l : List Nat} (hb : ∀ x ∈ l, x < 256) : (dPv l).s.length = 32 := by
  by_cases h : dErr l = 0
  · exact (packet_only hb h).2.2.1.n
  · unfold dPv; rw [if_neg h]; rfl
theorem decP_own (w : World) (g cap k : Nat) (l : List Nat) (hk : l.length = k) (h : BSl w (.slice (some ⟨g, 0, none⟩) k cap) l) (hg : g < w.heap.size) (hT : BTab w) :
    Calls Tryd.prog 9 #[.slice (some ⟨g, 0, none⟩) k cap] w fun e' w' => ∃ CS, e' = .returned (.tuple #[.agg CS, .int .i64 (dAt l : Nat), .int .i64 (dErr l : Nat)]) ∧ PC CS ∧ Below w.heap.size w w' := by
  subst hk
  obtain ⟨a, c, e, h1, h2, h3, h4, h5⟩ := h
  simp only [Value.slice.injEq] at e
  obtain ⟨rfl, _, rfl⟩ := e
  refine (decP_at w g 0 cap l hg h1 h2 h4 (fun i hi => ?_) hT).mono ?_
  · obtain ⟨b, off, e, hc⟩ := h5 (by omega)
    simp only [Option.some.injEq, Addr.mk.injEq] at e
    obtain ⟨rfl, rfl, _⟩ := e
    exact hc i hi
  · rintro e' w' ⟨v', rfl, hv, hb⟩
    obtain ⟨va, vc, rfl, _⟩ := hv
    exact ⟨_, rfl, pc_of _ (dPv_n h4) _ rfl, hb⟩
/-- the beginning of bytes -/
theorem BSl.head {w : World} {a : Option Addr} {cap : Nat} {l : List Nat} (h : BSl w (.slice a l.length cap) l) (n : Nat) (hn : n ≤ l.length) : BSl w (.slice a n cap) (l.take n) := by
  have hln : (l.take n).length = n := by simp; omega
  obtain ⟨a', c', e, h1, h2, h3, h4, h5⟩ := h
  simp only [Value.slice.injEq] at e
  obtain ⟨rfl, _, rfl⟩ := e
  refine ⟨a, cap, by rw [hln], by rw [hln]; omega, h2, h3, fun x hx => h4 x (List.mem_of_mem_take hx), fun hp => ?_⟩
  obtain ⟨b, off, rfl, hc⟩ := h5 (by omega)
  refine ⟨b, off, rfl, fun i hi => ?_⟩
  rw [hc i (by omega)]
  have : (l.take n).getD i 0 = l.getD i 0 := by
    rw [List.getD_eq_getElem?_getD, List.getD_eq_getElem?_getD, List.getElem?_take_of_lt (by omega)]
  rw [this]
end Go.Proofs.YtedhohamdbplhaaDoor
namespace Go.Proofs.YtedhohamdbplhaaDoor
open Go.RowKit
set_option linter.unusedVariables false
set_option linter.unusedSimpArgs false
set_option maxRecDepth 20000

theorem row_put (c : Int) {p : PV} (hp : p.s.length = 32) (v v' : Value) : (.int .i64 c :: p.row v).toArray.setIfInBounds 42 v' = (.int .i64 c :: p.row v').toArray := by
  rw [List.setIfInBounds_toArray, List.set_cons_succ]
  congr 2
  unfold PV.row
  rw [List.set_append_right _ _ (by simp [hp])]
  simp [hp]
theorem zpk_row {w : World} {CS : Array Value} (g : Nat) (hg : w.heap[g]? = some (.cells zPk 36 (0, 0))) : (w.setRow g CS).heap[g]? = some (.cells CS 36 (0, 0)) := setRow_heap _ _ zPk _ 36 _ hg
set_option maxHeartbeats 2000000 in
/-- a packet with data of its own -/
theorem ownPacket_any (w : World) (c : Int) (p : PV) (v : Value) (hp : p.Ok) (h : BSl w v p.dl) (hl : p.dl.length ≤ 140737488351232) :
    Calls Tryd.prog 7 #[pkV c p v] w fun e w' => ∃ v', e = .returned (pkV c p v') ∧ BSl w' v' p.dl ∧ (∀ g, v'.ownBlock = some g → g < w'.heap.size) ∧ Below w.heap.size w w' := by
  obtain ⟨pa, cap, rfl, h1, h2, h3, h4, h5⟩ := id h
  have HPV : ∀ v, pkV c p v = .agg (.int .i64 c :: p.row v).toArray := fun _ => rfl
  have PC0 := hide (pc_of c hp.n (.slice pa p.dl.length cap) rfl)
  have HK : Hid (KM (w.alloc (.cells (.int .i64 c :: p.row (.slice pa p.dl.length cap)).toArray 36)) w.heap.size c p (.slice pa p.dl.length cap)) := hide ⟨Go.heap_alloc_new w _, hp⟩
  have b0 := (Below.refl w.heap.size w).alloc (Nat.le_refl _) (.cells (.int .i64 c :: p.row (.slice pa p.dl.length cap)).toArray 36)
  have s0 : (w.alloc (.cells (.int .i64 c :: p.row (.slice pa p.dl.length cap)).toArray 36)).heap.size = w.heap.size + 1 := by simp
  have b1 := (Below.refl _ (w.alloc (.cells (.int .i64 c :: p.row (.slice pa p.dl.length cap)).toArray 36))).alloc (Nat.le_refl _) (.cells zPk 36)
  have B1 := hide (b0.trans (b1.mono b0.size))
  have K1 := hide (HK.out.below b1)
  have N1 : Hid (((w.alloc (.cells (.int .i64 c :: p.row (.slice pa p.dl.length cap)).toArray 36)).alloc (.cells zPk 36)).heap[w.heap.size + 1]? = some (.cells zPk 36 (0, 0))) := hide (by rw [← s0]; exact Go.heap_alloc_new _ _)
  have HB := hide (h.below B1.out)
  have HCP := hide (copied_any _ _ _ HB.out (by omega))
  have HPN := hide hp
  unfold pkV
  have HRP := hide fun v' => row_put c hp.n (.slice pa p.dl.length cap) v'
  have HPCs := hide fun (va : Option Addr) (vc : Nat) => pc_of c hp.n (.slice va p.dl.length vc) rfl
  generalize hcs : (.int .i64 c :: p.row (.slice pa p.dl.length cap)).toArray = CS at *
  have kd := K1.out.dat
  have kf : ((w.alloc (.cells CS 36)).alloc (.cells zPk 36)).frozen? ⟨w.heap.size, 42, none⟩ = false := by have hr := K1.out.row; rw [hcs] at hr; exact frozen_of_row _ _ _ _ _ hr
  have HCS := hide hcs
  generalize hy : (w.alloc (.cells CS 36)).alloc (.cells zPk 36) = y at *
  unfold zPk at hy
  have HY := hide hy
  clear h h1 h2 h3 h4 h5 b0 b1 s0 hcs hp HK HPV hy
  cases pa with
  | none =>
    go_enter Tryd.func7, Tryd.ntmps7
    have R1 : Hid (y.heap[w.heap.size]? = some (.cells CS 36 (0, 0))) := hide (by have := K1.out.row; rw [HCS.out] at this; exact this)
    clear kd
    have kd := K1.out.dat
    go_wp2_with (first
      | (rw [HY.out])
      | (refine wpList_load_row rfl 36 (.tmp 1) rfl w.heap.size (by first | rfl | simp [Act.eval, Act.put]) 36 CS (0, 0) _ R1.out Tryd.underlying36 rfl PC0.out.i ?_)
      | (refine wpList_store_row rfl 36 (.tmp 2) (.tmp 10) rfl (w.heap.size + 1) CS (by first | rfl | simp [Act.eval, Act.put]) (by first | rfl | simp [Act.eval, Act.put]) 36 zPk N1.out PC0.out.i PC0.out.z PC0.out.o ?_))
    have hbb : Below w.heap.size w (y.setRow (w.heap.size + 1) CS) := by
      have hb := B1.out
      refine ⟨hb.os, hb.tape, hb.output, by simp [World.setRow]; exact hb.size, fun j hj => ?_⟩
      rw [setRow_other _ _ _ _ (by omega)]; exact hb.block j hj
    refine bodyPost_ret (results_row (p := 2) rfl _ _ (w.heap.size + 1) 36 CS (0, 0) _ (by kernel_rfl) (zpk_row _ N1.out) Tryd.underlying36 rfl PC0.out.i) rfl ⟨.slice none p.dl.length cap, ?_, ?_, ?_, hbb⟩
    · rw [← HCS.out]
    · exact HB.out.stay fun g hg => by simp [Value.ownBlock] at hg
    · intro g hg; simp [Value.ownBlock] at hg
  | some ad =>
    go_enter Tryd.func7, Tryd.ntmps7
    go_wp2_with (first
      | (rw [HY.out])
      | (go_at_call 8; refine HCP.out.mono ?_; rintro e' z ⟨v', rfl, ho, hb⟩; have BZ := hide (B1.out.trans (hb.mono B1.out.size)); have HO := hide ho; have KZ := hide (K1.out.below hb); have NZ := hide ((hb.block _ (Array.getElem?_eq_some_iff.1 N1.out).1).trans N1.out); have kd2 := (hb.block _ (Array.getElem?_eq_some_iff.1 K1.out.row).1); have kz := KZ.out.dat; have kzf : z.frozen? ⟨w.heap.size, 42, none⟩ = false := frozen_of_row _ _ _ _ _ KZ.out.row; have RZ := hide (KZ.out.row); rw [HCS.out] at RZ; obtain ⟨va, vc, hv, _⟩ := id ho.bsl; subst hv; have PCZ := hide (HPCs.out va vc); have RS := hide ((Go.heap_setCell_same z w.heap.size 42 _ 36 (.slice va p.dl.length vc) RZ.out)); rw [HRP.out] at RS; have NS : Hid ((z.setCell ⟨w.heap.size, 42, none⟩ (.slice va p.dl.length vc)).heap[w.heap.size + 1]? = some (.cells zPk 36 (0, 0))) := hide ((Go.heap_setCell_other _ _ _ _ (by show w.heap.size + 1 ≠ w.heap.size; omega)).trans NZ.out); generalize hcv : (.int .i64 c :: p.row (.slice va p.dl.length vc)).toArray = CV at *; clear ho hb HCP kd2 RZ)
      | (refine wpList_load_row rfl 36 (.tmp 1) rfl w.heap.size (by first | rfl | simp [Act.eval, Act.put]) 36 CV (0, 0) _ RS.out Tryd.underlying36 rfl PCZ.out.i ?_)
      | (refine wpList_store_row rfl 36 (.tmp 2) (.tmp 10) rfl (w.heap.size + 1) CV (by first | rfl | simp [Act.eval, Act.put]) (by first | rfl | simp [Act.eval, Act.put]) 36 zPk NS.out PCZ.out.i PCZ.out.z PCZ.out.o ?_))
    have hb2 : Below w.heap.size w (z.setCell ⟨w.heap.size, 42, none⟩ (.slice va p.dl.length vc)) := BZ.out.setCell (p := ⟨w.heap.size, 42, none⟩) (Nat.le_refl _) _
    have hbb : Below w.heap.size w ((z.setCell ⟨w.heap.size, 42, none⟩ (.slice va p.dl.length vc)).setRow (w.heap.size + 1) CV) := by
      refine ⟨hb2.os, hb2.tape, hb2.output, by simp [World.setRow]; exact BZ.out.size, fun j hj => ?_⟩
      rw [setRow_other _ _ _ _ (by omega)]; exact hb2.block j hj
    have hN := (Array.getElem?_eq_some_iff.1 N1.out).1
    refine bodyPost_ret (results_row (p := 2) rfl _ _ (w.heap.size + 1) 36 CV (0, 0) _ (by kernel_rfl) (zpk_row _ NS.out) Tryd.underlying36 rfl PCZ.out.i) rfl ⟨.slice va p.dl.length vc, ?_, ?_, ?_, hbb⟩
    · rw [← hcv]
    · refine HO.out.bsl.stay fun g hg => ?_
      have := (HO.out.block hg).1
      rw [setRow_other _ _ _ _ (by omega)]
      exact Go.heap_setCell_other _ _ _ _ (by show g ≠ w.heap.size; omega)
    · intro g hg
      have := (HO.out.block hg).2
      simpa [World.setRow] using this
end Go.Proofs.YtedhohamdbplhaaDoor
namespace Go.Proofs.YtedhohamdbplhaaDoor
open Go.RowKit
set_option linter.unusedVariables false
set_option linter.unusedSimpArgs false
set_option maxRecDepth 20000

/-- what EncodePacket says, in the two cases -/
theorem perr_cases (c : Int) (p : PV) (hp : p.Ok) (hdl : ∀ x ∈ p.dl, x < 256) : (perr c p ≠ 0 ∧ pbytes c p = []) ∨ ∃ cc : Nat, c = (cc : Int) ∧ perr c p = 0 ∧ 0 < (pbytes c p).length ∧ (∀ x ∈ pbytes c p, x < 256) ∧ dErr (pbytes c p) = 0 ∧ dC (pbytes c p) = cc ∧ dPv (pbytes c p) = p ∧ dAt (pbytes c p) = 0 := by
  by_cases h : perr c p = 0
  · right
    have hr : ¬ (c < 1 ∨ 25 < c) := fun e => by unfold perr at h; rw [if_pos e] at h; cases h
    obtain ⟨cc, rfl⟩ : ∃ cc : Nat, c = (cc : Int) := ⟨c.toNat, by omega⟩
    have hf : fitAll p (fdL cc) = true := by
      cases e : fitAll p (fdL cc) with
      | true => rfl
      | false => rw [(perr_no (by omega) (by omega) e).1] at h; cases h
    have hb := packet_back (c := cc) (by omega) (by omega) hp hdl hf
    have e := (perr_yes (c := cc) (by omega) (by omega) hf).2
    have hby : ∀ x ∈ pbytes cc p, x < 256 := by
      rw [e]
      intro x hx
      rcases List.mem_cons.1 hx with rfl | hx
      · omega
      · obtain ⟨f, hf, hx⟩ := List.mem_flatMap.1 hx
        cases f with
        | num n => exact be_lt _ _ x hx
        | ids =>
          simp only [encF, List.mem_append] at hx
          rcases hx with ((hx | hx) | hx) | hx
          · exact be_lt _ _ x hx
          · exact be_lt _ _ x hx
          · exact be_lt _ _ x hx
          · exact be_lt _ _ x hx
        | sum t => exact hp.s x hx
        | dat lo hi t =>
          simp only [encF, List.mem_append] at hx
          rcases hx with hx | hx
          · exact be_lt _ _ x hx
          · exact hdl x hx
    refine ⟨cc, rfl, h, by rw [e]; simp, hby, ?_⟩
    rw [e]
    exact hb
  · left
    exact ⟨h, by unfold pbytes; rw [if_neg h]⟩
/-- what DecodePacket says of a list of one's own that is not empty -/
theorem decF_own (w : World) (g cap k : Nat) (l : List Nat) (hk : l.length = k) (h : BSl w (.slice (some ⟨g, 0, none⟩) k cap) l) (hg : g < w.heap.size) (hT : BTab w) :
    Calls Tryd.prog 9 #[.slice (some ⟨g, 0, none⟩) k cap] w fun e' w' => DecF w l e' w' := by
  subst hk
  obtain ⟨a, c, e, h1, h2, h3, h4, h5⟩ := h
  simp only [Value.slice.injEq] at e
  obtain ⟨rfl, _, rfl⟩ := e
  refine decP_full w g 0 cap l hg h1 h2 h4 (fun i hi => ?_) hT
  obtain ⟨b, off, e, hc⟩ := h5 (by omega)
  simp only [Option.some.injEq, Addr.mk.injEq] at e
  obtain ⟨rfl, rfl, _⟩ := e
  exact hc i hi
end Go.Proofs.YtedhohamdbplhaaDoor
namespace Go.Proofs.YtedhohamdbplhaaDoor
open Go.RowKit
set_option linter.unusedVariables false
set_option linter.unusedSimpArgs false
set_option maxRecDepth 20000

end Go.Proofs.YtedhohamdbplhaaDoor
namespace Go.Proofs.YtedhohamdbplhaaDoor
open Go.RowKit
open Num
set_option linter.unusedVariables false
set_option linter.unusedSimpArgs false
set_option maxRecDepth 20000

theorem blank_dl (p : PV) : ∀ fs : List Fd, (∃ lo hi t, Fd.dat lo hi t ∈ fs) ∨ (fs.foldl blankF p).dl = p.dl := by
  intro fs
  induction fs generalizing p with
  | nil => exact .inr rfl
  | cons f r ih =>
    cases f with
    | dat lo hi t => exact .inl ⟨lo, hi, t, List.mem_cons_self⟩
    | num n => exact (ih (blankF p (.num n))).imp (fun ⟨a, b, c, h⟩ => ⟨a, b, c, List.mem_cons_of_mem _ h⟩) fun h => h.trans (PV.set_dl _ _ _)
    | ids => exact (ih (blankF p .ids)).imp (fun ⟨a, b, c, h⟩ => ⟨a, b, c, List.mem_cons_of_mem _ h⟩) fun h => h
    | sum t => exact (ih (blankF p (.sum t))).imp (fun ⟨a, b, c, h⟩ => ⟨a, b, c, List.mem_cons_of_mem _ h⟩) fun h => h
theorem fitAll_len {p : PV} {c : Nat} (h : fitAll p (fdL c) = true) : p.dl.length ≤ 65535 := by
  unfold fitAll at h
  rw [Bool.and_eq_true] at h
  rcases blank_dl p (fdL c) with ⟨lo, hi, t, hm⟩ | hb
  · have h1 := List.all_eq_true.1 h.1 _ hm
    have := fit_dat h1 (fdL_ok c _ hm).2
    omega
  · have h2 := h.2
    unfold PV.empty at h2
    simp only [Bool.and_eq_true] at h2
    have h3 := h2.2
    rw [hb] at h3
    have : p.dl = [] := by simpa using h3
    rw [this]
    simp
theorem flat_len {p : PV} : ∀ fs : List Fd, (∀ f ∈ fs, (encF p f).length ≤ 70000) → (encAll p fs).length ≤ 70000 * fs.length := by
  intro fs
  induction fs with
  | nil => intro _; simp [encAll]
  | cons f r ih =>
    intro h
    have h1 := ih fun g hg => h g (List.mem_cons_of_mem _ hg)
    have h2 := h f List.mem_cons_self
    unfold encAll at h1 ⊢
    rw [List.flatMap_cons, List.length_append, List.length_cons]
    omega
/-- how long a packet's bytes may be, and its data where it has any -/
theorem pbytes_len (c : Int) (p : PV) (hp : p.Ok) : (pbytes c p).length ≤ 1000000 ∧ (perr c p = 0 → p.dl.length ≤ 1000000) := by
  by_cases h : perr c p = 0
  · have hr : ¬ (c < 1 ∨ 25 < c) := fun e => by unfold perr at h; rw [if_pos e] at h; cases h
    have hf : fitAll p (fdL c.toNat) = true := by
      cases e : fitAll p (fdL c.toNat) with
      | true => rfl
      | false => unfold perr at h; rw [if_neg hr, e] at h; cases h
    have h1 := fitAll_len hf
    have h2 : (encAll p (fdL c.toNat)).length ≤ 70000 * (fdL c.toNat).length := flat_len _ fun f hm => encF_len hp.n (fdL_ok _ f hm) (by
      unfold fitAll at hf
      rw [Bool.and_eq_true] at hf
      exact List.all_eq_true.1 hf.1 _ hm)
    have h3 := fdL_len c.toNat
    unfold pbytes
    rw [if_pos h, List.length_cons]
    exact ⟨by omega, fun _ => by omega⟩
  · unfold pbytes
    rw [if_neg h]
    exact ⟨by simp, fun e => (h e).elim⟩
theorem dPv_nil : dPv [] = PV.zero := by unfold dPv; rw [if_neg (by decide)]
theorem fbytes_len (k : Int) (a b c d : Nat) (l : List Nat) : (fbytes k a b c d l).length ≤ 1000000 := by
  unfold fbytes
  split
  · rename_i h
    obtain ⟨-, -, h⟩ := ferr_zero h
    rw [frm_len]
    omega
  · simp
theorem dp_len (l : List Nat) : (dp l).length ≤ l.length := by
  unfold dp
  split
  · simp
  · simp
theorem decO_own (w : World) (g cap k : Nat) (l : List Nat) (hk : l.length = k) (h : BSl w (.slice (some ⟨g, 0, none⟩) k cap) l) (hg : g < w.heap.size) (hT : BTab w) :
    Calls Tryd.prog 9 #[.slice (some ⟨g, 0, none⟩) k cap] w fun e' w' => DecO w l e' w' := by
  subst hk
  obtain ⟨a, c, e, h1, h2, h3, h4, h5⟩ := h
  simp only [Value.slice.injEq] at e
  obtain ⟨rfl, _, rfl⟩ := e
  refine decO_full w g 0 cap l hg h1 h2 h4 (fun i hi => ?_) hT
  obtain ⟨b, off, e, hc⟩ := h5 (by omega)
  simp only [Option.some.injEq, Addr.mk.injEq] at e
  obtain ⟨rfl, rfl, _⟩ := e
  exact hc i hi
/-- what 'copied' hands out is never nil -/
def CpS (w : World) (n : Nat) (l : List Nat) (e : Ending) (y : World) : Prop := ∃ g c, e = .returned (.slice (some ⟨g, 0, none⟩) n c) ∧ Own y w.heap.size (.slice (some ⟨g, 0, none⟩) n c) l ∧ Below w.heap.size w y ∧ g < y.heap.size
set_option maxHeartbeats 400000 in
theorem copied_some (v : Value) (l : List Nat) (w : World) (n : Nat) (hn : l.length = n) (h : BSl w v l) (hr : l.length ≤ 140737488355328) :
    Calls Tryd.prog 8 #[v] w (CpS w n l) := by
  subst hn
  by_cases hl : 0 < l.length
  · refine (copied_any v l w h hr).mono ?_
    rintro e y ⟨v', rfl, ho, hb⟩
    obtain ⟨g, c, rfl, -, hg, -⟩ := ho.shape hl
    exact ⟨g, c, rfl, ho, hb, hg⟩
  · obtain rfl : l = [] := List.eq_nil_of_length_eq_zero (by omega)
    have hmade : Own (w.alloc (.cells #[] 5)) w.heap.size (.slice (some ⟨w.heap.size, 0, none⟩) 0 0) [] := ⟨World.ownsRow_made w #[] 0 (Nat.le_refl _) (by unfold maxLen; omega) rfl, by simp⟩
    have hbe := (Below.refl w.heap.size w).alloc (Nat.le_refl _) (.cells #[] 5)
    have h' := h.below hbe
    obtain ⟨a, cap, rfl, h1, hm, hn, hb, hcell⟩ := id h
    cases a with
    | none =>
      obtain rfl : cap = 0 := hn rfl
      go_enter Tryd.func8, Tryd.ntmps8
      go_wp2
      go_ret
      exact ⟨w.heap.size, 0, rfl, hmade, hbe, by simp⟩
    | some ad =>
      have HM := hide hmade
      have HH := hide h'
      have HBE := hide hbe
      clear hmade h' hbe h hn hcell hb
      go_enter Tryd.func8, Tryd.ntmps8
      go_wp2_with (at_builtin; refine wpList_app rfl (.tmp 3) (.tmp 4) rfl w.heap.size _ _ [] [] rfl rfl HM.out HH.out (by simp) (by simp) ?_; intro v6 w6 ho hb6 hs6 hne; have HO := hide ho; have HB := hide hb6; have HN := hide hne; clear ho hb6 hs6 hne)
      go_ret
      rcases own_form HO.out rfl with ⟨e, -⟩ | ⟨g, c, e, -, -⟩
      · have h9 := HN.out e
        injection h9 with h9
        cases h9
      · subst e
        exact ⟨g, c, rfl, HO.out, HBE.out.trans HB.out, (HO.out.ltO rfl).2⟩
end Go.Proofs.YtedhohamdbplhaaDoor
namespace Go.Proofs.YtedhohamdbplhaaDoor
open Go.RowKit
open Num
set_option linter.unusedVariables false
set_option linter.unusedSimpArgs false
set_option maxRecDepth 20000

/-- packets that came in -/
def PkAt (w : World) (a : Option Addr) (cap : Nat) (L : List (Int × PV × Value)) : Prop :=
  L.length ≤ cap ∧ cap ≤ maxLen ∧ (0 < L.length → ∃ b off, a = some ⟨b, off, none⟩ ∧ b < w.heap.size ∧ ∀ i s, L[i]? = some s → w.rangeAt b (off + i * 43) (.int .i64 s.1 :: s.2.1.row s.2.2)) ∧
  ∀ s ∈ L, s.2.1.Ok ∧ BSl w s.2.2 s.2.1.dl ∧ s.2.1.dl.length ≤ 140737488351232
structure FrI where
  k : Int
  a : Nat
  b : Nat
  c : Nat
  d : Nat
  v : Value
  l : List Nat
def frL (k : Int) (a b c d : Nat) (v : Value) : List Value := [.int .i64 k, .int .u32 (a : Int), .int .u32 (b : Int), .int .u32 (c : Int), .int .u32 (d : Int), v]
def FrI.row (f : FrI) : List Value := frL f.k f.a f.b f.c f.d f.v
def zFr : Array Value := #[.int .i64 0, .int .u32 0, .int .u32 0, .int .u32 0, .int .u32 0, .slice none 0 0]
structure FC (CS : Array Value) : Prop where
  i : (Tryd.prog.info? 48).map (·.size) = some CS.size
  z : zFr.size = CS.size
  o : CS.all (·.oneCell') = true
theorem infoFr : (Tryd.prog.info? 48).map (·.size) = some 6 := by kernel_rfl
theorem fc_of (k : Int) (a b c d : Nat) (v : Value) (hv : v.oneCell' = true) : FC (frL k a b c d v).toArray := ⟨infoFr, rfl, by simp [frL, Value.oneCell']; exact hv⟩
/-- frames that came in -/
def FrAt (w : World) (a : Option Addr) (cap : Nat) (L : List FrI) : Prop :=
  L.length ≤ cap ∧ cap ≤ maxLen ∧ (0 < L.length → ∃ b off, a = some ⟨b, off, none⟩ ∧ b < w.heap.size ∧ ∀ i s, L[i]? = some s → w.rangeAt b (off + i * 6) s.row) ∧
  ∀ s ∈ L, BSl w s.v s.l ∧ s.l.length ≤ 140737488351232 ∧ (-9223372036854775808 ≤ s.k ∧ s.k ≤ 9223372036854775807) ∧ s.a < 4294967296 ∧ s.b < 4294967296 ∧ s.c < 4294967296 ∧ s.d < 4294967296
theorem range_below {w x : World} {N b o : Nat} {cs : List Value} (h : w.rangeAt b o cs) (hb : Below N w x) (hN : b < N) : x.rangeAt b o cs := fun j v hj => (hb.cell (p := ⟨b, o + j, none⟩) hN).trans (h j v hj)
theorem bkV_start {w x : World} (hb : Below w.heap.size w x) : BkV w (x.alloc (.cells #[.slice none 0 0, .slice none 0 0, .slice none 0 0, .slice none 0 0, .int .i64 0] 28)) x.heap.size [] [] 0 0 := by
  have nn : ∀ z, Sep (.slice none 0 0) z := fun z g e => by simp [Value.ownBlock] at e
  refine ⟨⟨_, _, _, _, [], [], [], [], 0, ⟨Go.heap_alloc_new x _, hb.size, World.ownsRow_nil _ _ _ _, World.ownsRow_nil _ _ _ _, World.ownsRow_nil _ _ _ _, World.ownsRow_nil _ _ _ _, nn _, nn _, nn _, nn _, nn _, nn _⟩, ⟨by simp, by simp, by simp, by simp, by simp, by simp⟩, rfl, by simp, rfl, by simp, by simp⟩, (fun s hs => by cases hs), hb.trans (((Below.refl _ x).alloc (Nat.le_refl _) _).mono hb.size)⟩
end Go.Proofs.YtedhohamdbplhaaDoor
namespace Go.Proofs.YtedhohamdbplhaaDoor
open Go.RowKit
open Num
set_option linter.unusedVariables false
set_option linter.unusedSimpArgs false
set_option maxRecDepth 20000

theorem row_last (c : Int) {p : PV} (hp : p.s.length = 32) (v : Value) : ((.int .i64 c :: p.row v : List Value).toArray)[42]? = some v := by
  rw [List.getElem?_toArray, List.getElem?_cons_succ, row_eq, List.getElem?_append_right (by simp [u8L_len, hp])]
  simp [u8L_len, hp]
theorem fx_cell {w x : World} {p k m b j : Nat} {fix : List (Nat × Array Value × TypeId)} {pend : List Value} {cs : Array Value} {t : TypeId} {v : Value} (h : BkV w x p fix pend k m) (hm : (b, cs, t) ∈ fix) (hj : cs[j]? = some v) : x.cell? ⟨b, j, none⟩ = some v :=
  (cell_of_row _ _ _ _ _ _ (h.fx _ hm).2).trans hj
theorem fx_two {w z : World} {p k m b0 b1 b2 j : Nat} {pend : List Value} {C0 C1 C2 : Array Value} {t : TypeId} {v1 v2 : Value} (h1 : C1[j]? = some v1) (h2 : C2[j]? = some v2) (h : BkV w z p [(b2, C2, t), (b1, C1, t), (b0, C0, t)] pend k m) : z.cell? ⟨b1, j, none⟩ = some v1 ∧ z.cell? ⟨b2, j, none⟩ = some v2 :=
  ⟨fx_cell (b := b1) (cs := C1) (t := t) h (List.mem_cons_of_mem _ List.mem_cons_self) h1, fx_cell (b := b2) (cs := C2) (t := t) h List.mem_cons_self h2⟩
/-- what a packet is written and read as, in the two cases -/
theorem pk_both (c : Int) (p : PV) (hp : p.Ok) (hdl : ∀ x ∈ p.dl, x < 256) : ∃ (er : Nat) (PB : List Nat) (eQ aQ : Nat) (cQ : Int) (pQ : PV), perr c p = er ∧ pbytes c p = PB ∧ dErr PB = eQ ∧ dAt PB = aQ ∧ ((dC PB : Nat) : Int) = cQ ∧ dPv PB = pQ ∧ PB.length ≤ 1000000 ∧ pQ.dl.length ≤ 1000000 ∧ pQ.s.length = 32 ∧ (er ≠ 0 ∨ (er = 0 ∧ eQ = 0 ∧ cQ = c ∧ pQ = p)) := by
  refine ⟨_, _, _, _, _, _, rfl, rfl, rfl, rfl, rfl, rfl, (pbytes_len c p hp).1, ?_⟩
  rcases perr_cases c p hp hdl with ⟨h1, h2⟩ | ⟨cc, rfl, h1, h2, h3, h4, h5, h6, h7⟩
  · rw [h2, dPv_nil]
    exact ⟨by simp [PV.zero], by simp [PV.zero], .inl h1⟩
  · rw [h6]
    exact ⟨(pbytes_len _ p hp).2 h1, hp.n, .inr ⟨h1, h4, by rw [h5], rfl⟩⟩
/-- and a frame -/
theorem fr_both (k : Int) (a b c d : Nat) (l : List Nat) (ha : a < 4294967296) (hb : b < 4294967296) (hc : c < 4294967296) (hd' : d < 4294967296) (hby : ∀ x ∈ l, x < 256) : ∃ (er : Nat) (FB : List Nat) (eQ : Nat) (kQ : Int) (aQ bQ cQ dQ : Nat) (lQ : List Nat), ferr k l.length = er ∧ fbytes k a b c d l = FB ∧ derr FB = eQ ∧ ((dk FB : Nat) : Int) = kQ ∧ dw FB 0 = aQ ∧ dw FB 1 = bQ ∧ dw FB 2 = cQ ∧ dw FB 3 = dQ ∧ dp FB = lQ ∧ FB.length ≤ 1000000 ∧ lQ.length ≤ 1000000 ∧ (er ≠ 0 ∨ (er = 0 ∧ eQ = 0 ∧ kQ = k ∧ aQ = a ∧ bQ = b ∧ cQ = c ∧ dQ = d ∧ lQ = l)) := by
  refine ⟨_, _, _, _, _, _, _, _, _, rfl, rfl, rfl, rfl, rfl, rfl, rfl, rfl, rfl, fbytes_len k a b c d l, Nat.le_trans (dp_len _) (fbytes_len k a b c d l), ?_⟩
  by_cases hE : ferr k l.length = 0
  · obtain ⟨hk1, hk2, hpl⟩ := ferr_zero hE
    obtain ⟨kk, rfl⟩ : ∃ kk : Nat, k = (kk : Int) := ⟨k.toNat, by omega⟩
    have hfb : fbytes kk a b c d l = frm kk a b c d (fsum kk a b c d l) l := by unfold fbytes; rw [if_pos hE, Int.toNat_natCast]
    have hfr := derr_frm (p := l) hE ha hb hc hd' hby
    rw [hfb]
    exact .inr ⟨hE, hfr.1, by rw [hfr.2.1], hfr.2.2.1, hfr.2.2.2.1, hfr.2.2.2.2.1, hfr.2.2.2.2.2.1, hfr.2.2.2.2.2.2⟩
  · exact .inl hE
theorem six_pend {w x : World} {p k m : Nat} {fix : List (Nat × Array Value × TypeId)} {a b c d e f : Value × List Nat} (h : BkS w x p fix [f, e, d, c, b, a] k m) : BkV w x p fix [a.1, d.1, c.1, f.1, b.1, e.1] k m := h.v.perm (six_perm _ _ _ _ _ _)

set_option maxHeartbeats 16000000 in
theorem lists_law (w : World) (hT : BTab w) (a1 a2 : Option Addr) (c1 c2 n1 n2 : Nat) (L1 : List (Int × PV × Value)) (L2 : List FrI) (h1 : PkAt w a1 c1 L1) (h2 : FrAt w a2 c2 L2) (e1 : L1.length = n1) (e2 : L2.length = n2) (m1 : n1 ≤ 1048576) (m2 : n2 ≤ 1048576) :
    Calls Tryd.prog 3 #[.slice a1 n1 c1, .slice a2 n2 c2] w fun e x => e = .returned (.bool true) ∧ Below w.heap.size w x := by
  have HT := hide fun y (hy : Below w.heap.size w y) => hT.below hy
  have HEX := hide (example_any w hT)
  have H1 := hide h1
  have H2 := hide h2
  have E1 := hide e1
  have E2 := hide e2
  clear hT h1 h2 e1 e2
  go_enter Tryd.func3, Tryd.ntmps3
  go_wp2_with (go_at_call 5; refine HEX.out.mono ?_; rintro e' y1 ⟨rfl, hb1⟩; have HB := hide (bkV_start hb1); clear hb1 HEX)
  generalize hp : y1.heap.size = p at *
  generalize y1.alloc _ = y2 at *
  clear hp
  obtain ⟨M, hM1, hM2, hM3⟩ : ∃ M, n1 ≤ M ∧ n2 ≤ M ∧ M ≤ 1048576 := ⟨max n1 n2, Nat.le_max_left _ _, Nat.le_max_right _ _, Nat.max_le.2 ⟨m1, m2⟩⟩
  go_loopw [6] (fun x wr => ∃ i : Nat, i ≤ M ∧ x = .int .i64 (i : Int) ∧ BkV w wr p [] [] (48 * i) (24 * i)) (fun x _ => M - (intOf x).toNat)
  case atStart => exact ⟨0, Nat.zero_le _, rfl, HB.out⟩
  case round =>
    clear HB
    obtain ⟨i, hi, rfl, hbk⟩ := hrel
    have HB := hide hbk
    have HM := hide hM3
    clear hbk
    by_cases hp1 : i < n1
    · obtain ⟨s, hs⟩ : ∃ s, L1[i]? = some s := ⟨L1[i]'(by have := E1.out; omega), List.getElem?_eq_getElem (by have := E1.out; omega)⟩
      obtain ⟨cc, pv, dv⟩ := s
      obtain ⟨q1, q2, q3, q4⟩ := id H1.out
      obtain ⟨b, off, rfl, hbs, hrg⟩ := q3 (by have := E1.out; omega)
      have hr := hide fun y (hy : Below w.heap.size w y) => range_below (hrg i _ hs) hy hbs
      obtain ⟨hok, hbsl, hdl⟩ := q4 _ (List.mem_of_getElem? hs)
      have f1 : n1 ≤ c1 := by have := E1.out; omega
      have f2 : c1 ≤ 9223372036854775807 := q2
      simp only at hr hok hbsl hdl
      obtain ⟨da, dc, rfl, -⟩ := id hbsl
      have PCR := hide (pc_of cc hok.n (.slice da pv.dl.length dc) rfl)
      have HOP := hide fun y (hy : Below w.heap.size w y) => ownPacket_any y cc pv (.slice da pv.dl.length dc) hok (hbsl.below hy) hdl
      obtain ⟨er, PB, eQ, aQ, cQ, pQ, g1, g2, g3, g4, g5, g6, g7, g8, g9, g10⟩ := pk_both cc pv hok hbsl.bytes
      have HEP : Hid (∀ y v1, BSl y v1 pv.dl → (∀ g, v1.ownBlock = some g → g < y.heap.size) → BTab y → Calls Tryd.prog 6 #[.agg (.int .i64 cc :: pv.row v1).toArray] y fun e y' => ∃ v', e = .returned (.tuple #[v', .int .i64 (er : Nat)]) ∧ Own y' y.heap.size v' PB ∧ Below y.heap.size y y') := hide fun y v1 hv hlt hy => by rw [← g1, ← g2]; exact encodePacket_any y cc pv v1 hok hv hlt hy
      have HDF : Hid (∀ y g k n, PB.length = n → BSl y (.slice (some ⟨g, 0, none⟩) n k) PB → g < y.heap.size → BTab y → Calls Tryd.prog 9 #[.slice (some ⟨g, 0, none⟩) n k] y fun e y' => ∃ v', e = .returned (.tuple #[.agg (.int .i64 cQ :: pQ.row v').toArray, .int .i64 (aQ : Nat), .int .i64 (eQ : Nat)]) ∧ Own y' y.heap.size v' pQ.dl ∧ Below y.heap.size y y') := hide fun y g k n hn hb hg hy => by
        have h9 := decO_own y g k n PB hn hb hg hy
        unfold DecO pkV at h9
        rw [g3, g4, g5, g6] at h9
        exact h9
      have HPQ := hide fun (a : Option Addr) (n c : Nat) => pc_of cQ g9 (.slice a n c) rfl
      have HPL := hide fun (a : Option Addr) (n c : Nat) => row_last cQ g9 (.slice a n c)
      have HSP : Hid (er = 0 → ∀ y v1 v2, BSl y v1 pv.dl → BSl y v2 pQ.dl → Calls Tryd.prog 11 #[.agg (.int .i64 cc :: pv.row v1).toArray, .agg (.int .i64 cQ :: pQ.row v2).toArray] y fun e y' => e = .returned (.bool true) ∧ Below y.heap.size y y') := hide fun h0 y v1 v2 hb1 hb2 => by
        obtain ⟨-, -, h1, h2⟩ := g10.resolve_left fun h => h h0
        subst h1 h2
        exact samePacket_eq y _ pQ pQ v1 v2 hok hb1 hb2 rfl rfl
      have HCS : Hid (er ≠ 0 ∨ (er = 0 ∧ eQ = 0)) := hide (g10.imp id fun h => ⟨h.1, h.2.1⟩)
      have HBD : Hid (∀ y, Below w.heap.size w y → BSl y (.slice da pv.dl.length dc) pv.dl) := hide fun y hy => hbsl.below hy
      unfold pkV at HOP
      generalize hRL : (.int .i64 cc :: pv.row (.slice da pv.dl.length dc) : List Value) = RL at *
      have HRL := hide hRL
      have HGL := hide g7
      have HGQ := hide g8
      obtain ⟨nP, hnP⟩ : ∃ n, PB.length = n := ⟨_, rfl⟩
      have HNP := hide hnP
      obtain ⟨DL, hDL⟩ : ∃ l, pQ.dl = l := ⟨_, rfl⟩
      rw [hDL] at HDF HGQ HSP
      obtain ⟨nQ, hnQ⟩ : ∃ n, DL.length = n := ⟨_, rfl⟩
      have HNQ := hide hnQ
      have HI : Hid ((Tryd.prog.info? 36).map (·.size) = some RL.length) := hide (by rw [PCR.out.i, List.size_toArray])
      clear hnP hnQ hDL hRL g1 g2 g3 g4 g5 g6 g7 g8 g9 g10 q1 q2 q3 q4 hbs hrg hs hok hbsl hdl
      go_wp2_with (first
        | (have HB1 := hide (HB.out.start.box RL.toArray 36 (by decide)); refine wpList_load_midW (by kernel_rfl) 36 (.tmp 53) rfl b (off + i * 43) (by first | rfl | simp [Act.eval, Act.put]) RL _ (hr.out _ HB.out.be) Tryd.underlying36 rfl HI.out ?_; (try clear HK HFX))
        | (refine wpList_store_row rfl 36 (.tmp 7) (.tmp 54) rfl wr.heap.size RL.toArray (by first | rfl | simp [Act.eval, Act.put]) (by first | rfl | simp [Act.eval, Act.put]) 36 zPk (Go.heap_alloc_new wr _) PCR.out.i PCR.out.z PCR.out.o ?_; rw [World.setRow_alloc_new])
        | (refine wpList_load_row rfl 36 (.tmp 7) rfl wr.heap.size (by first | rfl | simp [Act.eval, Act.put]) 36 RL.toArray (0, 0) _ (HB1.out.v.fx _ List.mem_cons_self).2 Tryd.underlying36 rfl PCR.out.i ?_)
        | (go_at_call 7; refine (HOP.out _ HB1.out.v.be).mono ?_; rintro e' x2 ⟨v1, rfl, hv1, hg1, hb1⟩; have HB2 := hide (HB1.out.below hb1); have HE2 := hide (HEP.out x2 v1 hv1 hg1 (HT.out _ HB2.out.v.be)); clear hv1 hg1 hb1 HB1)
        | (go_at_call 6; refine HE2.out.mono ?_; rintro e' x3 ⟨vb, rfl, hob, hb2⟩; have HB3 := hide (HB2.out.cons hb2 hob HGL.out); obtain ⟨ab, cb, rfl⟩ := own_slice hob HNP.out; have HC3 := hide (copied_some _ PB x3 nP HNP.out hob.bsl (by have := HGL.out; omega)); clear hob hb2 HE2 HB2)
        | (go_at_call 8; refine HC3.out.mono ?_; rintro e' x4 ⟨g4, c4, rfl, ho4, hb4, hg4⟩; have HB4 := hide (HB3.out.cons hb4 ho4 HGL.out); have HD4 := hide (HDF.out x4 g4 c4 nP HNP.out ho4.bsl hg4 (HT.out _ HB4.out.v.be)); clear ho4 hb4 hg4 HC3 HB3)
        | (go_at_call 9; refine HD4.out.mono ?_; rintro e' x5 ⟨v5, rfl, ho5, hb5⟩; have HB5 := hide (HB4.out.cons hb5 ho5 HGQ.out); have HV5 := hide ho5.bsl; obtain ⟨a5, c5, rfl⟩ := own_slice ho5 HNQ.out; have PC5 := hide (HPQ.out a5 nQ c5); have HL5 := hide (HPL.out a5 nQ c5); generalize hQ5 : (.int .i64 cQ :: pQ.row (.slice a5 nQ c5) : List Value) = Q5 at *; have HQ5 := hide hQ5; have HB6 := hide (HB5.out.box Q5.toArray 36 (by decide)); have HV6 := hide (HV5.out.below ((Below.refl _ x5).alloc (Nat.le_refl _) (.cells Q5.toArray 36))); clear hQ5 ho5 hb5 HD4 HB4 HB5 HV5)
        | (refine wpList_store_row rfl 36 (.tmp 11) (.tmp 66) rfl x5.heap.size Q5.toArray (by first | rfl | simp [Act.eval, Act.put]) (by first | rfl | simp [Act.eval, Act.put]) 36 zPk (Go.heap_alloc_new x5 _) PC5.out.i PC5.out.z PC5.out.o ?_; rw [World.setRow_alloc_new]))
      generalize x5.alloc (.cells Q5.toArray 36) = x6 at *
      generalize x5.heap.size = b5 at *
      obtain ⟨b0, hb0⟩ : ∃ b0, b0 = wr.heap.size := ⟨_, rfl⟩
      rw [← hb0] at HB6 ⊢
      clear hb0 hr f1 f2 PC5
      rcases HCS.out with hne | ⟨e0, e1⟩
      · have hne' : ((er : Int) == 0) = false := by simp only [beq_eq_false_iff_ne]; omega
        have HB7 := HB6
        clear hne HB6
        by_cases hp2 : i < n2
        · obtain ⟨s, hs⟩ : ∃ s, L2[i]? = some s := ⟨L2[i]'(by have := E2.out; omega), List.getElem?_eq_getElem (by have := E2.out; omega)⟩
          obtain ⟨fk, fa, fb, fc, fd, dv, fl⟩ := s
          obtain ⟨q1, q2, q3, q4⟩ := id H2.out
          obtain ⟨b2, off2, rfl, hbs, hrg⟩ := q3 (by have := E2.out; omega)
          have hrf := hide fun y (hy : Below w.heap.size w y) => range_below (hrg i _ hs) hy hbs
          obtain ⟨hbsl, hdl, hk, ha, hb, hc, hd'⟩ := q4 _ (List.mem_of_getElem? hs)
          have f1f : n2 ≤ c2 := by have := E2.out; omega
          have f2f : c2 ≤ 9223372036854775807 := q2
          simp only [FrI.row] at hrf hbsl hdl hk ha hb hc hd'
          obtain ⟨daf, dcf, rfl, -⟩ := id hbsl
          have PCRf := hide (fc_of fk fa fb fc fd (.slice daf fl.length dcf) rfl)
          have HOPf : Hid (∀ y, Below w.heap.size w y → Calls Tryd.prog 14 #[.agg (frL fk fa fb fc fd (.slice daf fl.length dcf)).toArray] y fun e y' => ∃ v', e = .returned (.agg (frL fk fa fb fc fd v').toArray) ∧ BSl y' v' fl ∧ Below y.heap.size y y') := hide fun y (hy : Below w.heap.size w y) => ownFrame_any y fk fa fb fc fd (.slice daf fl.length dcf) fl (hbsl.below hy) hdl
          obtain ⟨erf, PBf, eQf, kQ, aQf, bQ, cQf, dQ, DLf, g1, g2, g3, g4f, g5, g6, g11, g12, g13, g7, g8, g10⟩ := fr_both fk fa fb fc fd fl ha hb hc hd' hbsl.bytes
          have HEPf : Hid (∀ y v1f, BSl y v1f fl → Calls Tryd.prog 13 #[.agg (frL fk fa fb fc fd v1f).toArray] y fun e y' => ∃ v', e = .returned (.tuple #[v', .int .i64 (erf : Nat)]) ∧ Own y' y.heap.size v' PBf ∧ Below y.heap.size y y') := hide fun y v1f hv => by rw [← g1, ← g2]; exact encodeFrame_any y fk fa fb fc fd v1f fl hv hk hdl ha hb hc hd'
          have HDFf : Hid (∀ y v, BSl y v PBf → Calls Tryd.prog 15 #[v] y fun e y' => ∃ v', e = .returned (.tuple #[.agg (frL kQ aQf bQ cQf dQ v').toArray, .int .i64 (eQf : Nat)]) ∧ Own y' y.heap.size v' DLf ∧ Below y.heap.size y y') := hide fun y v hb => by
            have h9 := decodeFrame_any y v PBf hb
            unfold decPost frV at h9
            rw [g3, g4f, g5, g6, g11, g12, g13] at h9
            exact h9
          have HPQf := hide fun (a : Option Addr) (n c : Nat) => fc_of kQ aQf bQ cQf dQ (.slice a n c) rfl
          have HPLf : Hid (∀ (a : Option Addr) (n c : Nat), (frL kQ aQf bQ cQf dQ (.slice a n c)).toArray[5]? = some (.slice a n c)) := hide fun (a : Option Addr) (n c : Nat) => rfl
          have HSPf : Hid (erf = 0 → ∀ y v1f v2, BSl y v1f fl → BSl y v2 DLf → Calls Tryd.prog 16 #[.agg (frL fk fa fb fc fd v1f).toArray, .agg (frL kQ aQf bQ cQf dQ v2).toArray] y fun e y' => e = .returned (.bool true) ∧ Below y.heap.size y y') := hide fun h0 y v1f v2 hb1 hb2 => by
            obtain ⟨-, -, h1, h2, h3, h4, h5, h6⟩ := g10.resolve_left fun h => h h0
            subst h1 h2 h3 h4 h5 h6
            exact sameFrame_eq y kQ aQf bQ cQf dQ v1f v2 DLf hb1 hb2
          have HCSf : Hid (erf ≠ 0 ∨ (erf = 0 ∧ eQf = 0)) := hide (g10.imp id fun h => ⟨h.1, h.2.1⟩)
          have HBDf : Hid (∀ y, Below w.heap.size w y → BSl y (.slice daf fl.length dcf) fl) := hide fun y hy => hbsl.below hy
          generalize hRL : frL fk fa fb fc fd (.slice daf fl.length dcf) = RLf at *
          have HRLf := hide hRL
          have HGLf := hide g7
          have HGQf := hide g8
          obtain ⟨nPf, hnP⟩ : ∃ n, PBf.length = n := ⟨_, rfl⟩
          have HNPf := hide hnP
          obtain ⟨nQf, hnQ⟩ : ∃ n, DLf.length = n := ⟨_, rfl⟩
          have HNQf := hide hnQ
          have HIf : Hid ((Tryd.prog.info? 48).map (·.size) = some RLf.length) := hide (by rw [PCRf.out.i, List.size_toArray])
          clear hnP hnQ hRL g1 g2 g3 g4f g5 g6 g7 g8 g10 g11 g12 g13 q1 q2 q3 q4 hbs hrg hs hbsl hdl hk ha hb hc hd'
          have HTOK := hide True.intro
          go_wp2_with (first
            | (go_at_call 10; have hk9 := HTOK.out; clear hk9; refine (num_any _ _).mono ?_; rintro e' zn ⟨rfl, hz⟩; subst hz)
            | (refine wpList_load_row rfl 36 (.tmp 7) rfl b0 (by first | rfl | simp [Act.eval, Act.put]) 36 RL.toArray (0, 0) _ (HB7.out.v.fx (b0, RL.toArray, 36) (by simp)).2 Tryd.underlying36 rfl PCR.out.i ?_)
            | (go_at_call 7; refine (HOP.out _ HB7.out.v.be).mono ?_; rintro e' x8 ⟨v1, rfl, hv1, hg1, hb1⟩; have HB2 := hide (HB7.out.below hb1); have HE2 := hide (HEP.out x8 v1 hv1 hg1 (HT.out _ HB2.out.v.be)); clear hv1 hg1 hb1 HB7 HTOK)
            | (go_at_call 6; refine HE2.out.mono ?_; rintro e' x9 ⟨vb, rfl, hob, hb2⟩; have HB9 := hide (HB2.out.cons hb2 hob HGL.out); obtain ⟨ab9, cb9, rfl⟩ := own_slice hob HNP.out; have HC9 := hide (copied_some (.slice ab nP cb) PB x9 nP HNP.out (HB9.out.pe (.slice ab nP cb, PB) (by simp)).1.bsl (by have := HGL.out; omega)); clear hob hb2 HE2 HB2)
            | (go_at_call 8; refine HC9.out.mono ?_; rintro e' xa ⟨ga, ca, rfl, hoa, hba, hga⟩; have HBa := hide (HB9.out.cons hba hoa HGL.out); have HDa := hide (HDF.out xa ga ca nP HNP.out hoa.bsl hga (HT.out _ HBa.out.v.be)); clear hoa hba hga HC9 HB9)
            | (go_at_call 9; refine HDa.out.mono ?_; rintro e' xb ⟨vv, rfl, hob, hbb⟩; have HBb := hide (HBa.out.cons hbb hob HGQ.out); obtain ⟨ab2, cb2, rfl⟩ := own_slice hob HNQ.out; have PCb := hide (HPQ.out ab2 nQ cb2); have HLb := hide (HPL.out ab2 nQ cb2); generalize hQb : (.int .i64 cQ :: pQ.row (.slice ab2 nQ cb2) : List Value) = Qb at *; have HBc := hide (HBb.out.box Qb.toArray 36 (by decide)); have HK := hide (six_pend HBc.out); have HFX : Hid (∀ z pend k m, BkV w z p [(xb.heap.size, Qb.toArray, 36), (b5, Q5.toArray, 36), (b0, RL.toArray, 36)] pend k m → z.cell? ⟨b5, 42, none⟩ = some (.slice a5 nQ c5) ∧ z.cell? ⟨xb.heap.size, 42, none⟩ = some (.slice ab2 nQ cb2)) := hide fun z pend k m h => fx_two HL5.out HLb.out h; clear hQb hob hbb HDa HBa HBb HBc)
            | (refine wpList_store_row rfl 36 (.tmp 17) (.tmp 94) rfl xb.heap.size Qb.toArray (by first | rfl | simp [Act.eval, Act.put]) (by first | rfl | simp [Act.eval, Act.put]) 36 zPk (Go.heap_alloc_new xb _) PCb.out.i PCb.out.z PCb.out.o ?_; rw [World.setRow_alloc_new])
            | (go_at_call 12; refine (keepV HK.out (by have := HM.out; omega) (by have := HM.out; omega)).mono ?_; (try clear e8 e9); rintro e' z ⟨rfl, hz⟩; obtain ⟨e8, e9⟩ := HFX.out z _ _ _ hz; have HK2 := hide hz; clear HK hz; have HK := HK2; clear HK2)
            | (go_at_call 17; refine (holdsV HK.out (by have := HM.out; omega)).mono ?_; rintro e' z9 ⟨rfl, hz⟩; have HB9z := hide hz; clear hz HK)
            | (have HB1f := hide ((HK.out.some (fix' := []) (by simp)).start.box RLf.toArray 48 (by decide)); refine wpList_load_midW (by kernel_rfl) 48 (.tmp 123) rfl b2 (off2 + i * 6) (by first | rfl | simp [Act.eval, Act.put]) RLf _ (hrf.out _ (HK.out.some (fix' := []) (by simp)).be) Tryd.underlying48 rfl HIf.out ?_; (try clear HK HFX))
            | (refine wpList_store_row rfl 48 (.tmp 20) (.tmp 124) rfl z.heap.size RLf.toArray (by first | rfl | simp [Act.eval, Act.put]) (by first | rfl | simp [Act.eval, Act.put]) 48 zFr (Go.heap_alloc_new z _) PCRf.out.i PCRf.out.z PCRf.out.o ?_; rw [World.setRow_alloc_new])
            | (refine wpList_load_row rfl 48 (.tmp 20) rfl z.heap.size (by first | rfl | simp [Act.eval, Act.put]) 48 RLf.toArray (0, 0) _ (HB1f.out.v.fx _ List.mem_cons_self).2 Tryd.underlying48 rfl PCRf.out.i ?_)
            | (go_at_call 14; refine (HOPf.out _ HB1f.out.v.be).mono ?_; rintro e' x2f ⟨v1f, rfl, hv1, hb1⟩; have HB2f := hide (HB1f.out.below hb1); have HE2f := hide (HEPf.out x2f v1f hv1); clear hv1 hb1 HB1f)
            | (go_at_call 13; refine HE2f.out.mono ?_; rintro e' x3f ⟨vbf, rfl, hob, hb2⟩; have HB3f := hide (HB2f.out.cons hb2 hob HGLf.out); obtain ⟨abf, cbf, rfl⟩ := own_slice hob HNPf.out; have HC3f := hide (copied_some _ PBf x3f nPf HNPf.out hob.bsl (by have := HGLf.out; omega)); clear hob hb2 HE2f HB2f)
            | (go_at_call 8; refine HC3f.out.mono ?_; rintro e' x4f ⟨g4f, c4f, rfl, ho4, hb4, hg4⟩; have HB4f := hide (HB3f.out.cons hb4 ho4 HGLf.out); have HD4f := hide (HDFf.out x4f _ ho4.bsl); clear ho4 hb4 hg4 HC3f HB3f)
            | (go_at_call 15; refine HD4f.out.mono ?_; rintro e' x5f ⟨v5f, rfl, ho5, hb5⟩; have HB5f := hide (HB4f.out.cons hb5 ho5 HGQf.out); have HV5f := hide ho5.bsl; obtain ⟨a5f, c5f, rfl⟩ := own_slice ho5 HNQf.out; have PC5f := hide (HPQf.out a5f nQf c5f); have HL5f := hide (HPLf.out a5f nQf c5f); generalize hQ5 : frL kQ aQf bQ cQf dQ (.slice a5f nQf c5f) = Q5f at *; have HQ5f := hide hQ5; have HB6f := hide (HB5f.out.box Q5f.toArray 48 (by decide)); have HV6f := hide (HV5f.out.below ((Below.refl _ x5f).alloc (Nat.le_refl _) (.cells Q5f.toArray 48))); clear hQ5 ho5 hb5 HD4f HB4f HB5f HV5f)
            | (refine wpList_store_row rfl 48 (.tmp 24) (.tmp 136) rfl x5f.heap.size Q5f.toArray (by first | rfl | simp [Act.eval, Act.put]) (by first | rfl | simp [Act.eval, Act.put]) 48 zFr (Go.heap_alloc_new x5f _) PC5f.out.i PC5f.out.z PC5f.out.o ?_; rw [World.setRow_alloc_new]))
          generalize x5f.alloc (.cells Q5f.toArray 48) = x6f at *
          generalize x5f.heap.size = b5f at *
          obtain ⟨b0f, hb0⟩ : ∃ b0f, b0f = z.heap.size := ⟨_, rfl⟩
          rw [← hb0] at HB6f ⊢
          clear hb0 hrf f1f f2f PC5f
          rcases HCSf.out with hnef | ⟨e0f, e1f⟩
          · have hnef' : ((erf : Int) == 0) = false := by simp only [beq_eq_false_iff_ne]; omega
            have HB7f := HB6f
            clear hnef HB6f
            have HTOK := hide True.intro
            go_wp2_with (first
              | (go_at_call 10; have hk9 := HTOK.out; clear hk9; refine (num_any _ _).mono ?_; rintro e' zn ⟨rfl, hz⟩; subst hz)
              | (refine wpList_load_row rfl 48 (.tmp 20) rfl b0f (by first | rfl | simp [Act.eval, Act.put]) 48 RLf.toArray (0, 0) _ (HB7f.out.v.fx (b0f, RLf.toArray, 48) (by simp)).2 Tryd.underlying48 rfl PCRf.out.i ?_)
              | (go_at_call 14; refine (HOPf.out _ HB7f.out.v.be).mono ?_; rintro e' x8f ⟨v1f, rfl, hv1, hb1⟩; have HB2f := hide (HB7f.out.below hb1); have HE2f := hide (HEPf.out x8f v1f hv1); clear hv1 hb1 HB7f HTOK)
              | (go_at_call 13; refine HE2f.out.mono ?_; rintro e' x9f ⟨vbf, rfl, hob, hb2⟩; have HB9f := hide (HB2f.out.cons hb2 hob HGLf.out); obtain ⟨ab9f, cb9f, rfl⟩ := own_slice hob HNPf.out; have HC9f := hide (copied_some (.slice abf nPf cbf) PBf x9f nPf HNPf.out (HB9f.out.pe (.slice abf nPf cbf, PBf) (by simp)).1.bsl (by have := HGLf.out; omega)); clear hob hb2 HE2f HB2f)
              | (go_at_call 8; refine HC9f.out.mono ?_; rintro e' xaf ⟨gaf, caf, rfl, hoa, hba, hga⟩; have HBaf := hide (HB9f.out.cons hba hoa HGLf.out); have HDaf := hide (HDFf.out xaf _ hoa.bsl); clear hoa hba hga HC9f HB9f)
              | (go_at_call 15; refine HDaf.out.mono ?_; rintro e' xbf ⟨vv, rfl, hob, hbb⟩; have HBbf := hide (HBaf.out.cons hbb hob HGQf.out); obtain ⟨ab2f, cb2f, rfl⟩ := own_slice hob HNQf.out; have PCbf := hide (HPQf.out ab2f nQf cb2f); have HLbf := hide (HPLf.out ab2f nQf cb2f); generalize hQb : frL kQ aQf bQ cQf dQ (.slice ab2f nQf cb2f) = Qbf at *; have HBcf := hide (HBbf.out.box Qbf.toArray 48 (by decide)); have HK := hide (six_pend HBcf.out); have HFX : Hid (∀ z pend k m, BkV w z p [(xbf.heap.size, Qbf.toArray, 48), (b5f, Q5f.toArray, 48), (b0f, RLf.toArray, 48)] pend k m → z.cell? ⟨b5f, 5, none⟩ = some (.slice a5f nQf c5f) ∧ z.cell? ⟨xbf.heap.size, 5, none⟩ = some (.slice ab2f nQf cb2f)) := hide fun z pend k m h => fx_two HL5f.out HLbf.out h; clear hQb hob hbb HDaf HBaf HBbf HBcf)
              | (refine wpList_store_row rfl 48 (.tmp 29) (.tmp 163) rfl xbf.heap.size Qbf.toArray (by first | rfl | simp [Act.eval, Act.put]) (by first | rfl | simp [Act.eval, Act.put]) 48 zFr (Go.heap_alloc_new xbf _) PCbf.out.i PCbf.out.z PCbf.out.o ?_; rw [World.setRow_alloc_new])
              | (go_at_call 12; refine (keepV HK.out (by have := HM.out; omega) (by have := HM.out; omega)).mono ?_; (try clear e8 e9); rintro e' z ⟨rfl, hz⟩; obtain ⟨e8, e9⟩ := HFX.out z _ _ _ hz; have HK2 := hide hz; clear HK hz; have HK := HK2; clear HK2)
              | (go_at_call 17; refine (holdsV HK.out (by have := HM.out; omega)).mono ?_; rintro e' z9 ⟨rfl, hz⟩; have HB9z := hide hz; clear hz HK))
            go_roundw
            case rel => exact ⟨i + 1, by omega, by go_num, (HB9z.out.some (fix' := []) (by simp)).more (by omega) (by omega)⟩
            case measure => simp [intOf]; omega
          · have HS6f := hide (HSPf.out e0f x6f _ _ (HBDf.out x6f HB6f.out.v.be) HV6f.out)
            rw [HRLf.out, HQ5f.out] at HS6f
            subst e0f e1f
            have PC5f : Hid ((Tryd.prog.info? 48).map (·.size) = some Q5f.toArray.size) := hide (by rw [← HQ5f.out]; exact (HPQf.out a5f nQf c5f).i)
            have HTOK := hide True.intro
            go_wp2_with (first
              | (go_at_call 10; have hk9 := HTOK.out; clear hk9; refine (num_any _ _).mono ?_; rintro e' zn ⟨rfl, hz⟩; subst hz)
              | (refine wpList_load_rowW (by kernel_rfl) 48 (.tmp 20) rfl b0f (by first | rfl | simp [Act.eval, Act.put]) 48 RLf.toArray (0, 0) _ (HB6f.out.v.fx (b0f, RLf.toArray, 48) (by simp)).2 Tryd.underlying48 rfl PCRf.out.i ?_)
              | (refine wpList_load_rowW (by kernel_rfl) 48 (.tmp 24) rfl b5f (by first | rfl | simp [Act.eval, Act.put]) 48 Q5f.toArray (0, 0) _ (HB6f.out.v.fx (b5f, Q5f.toArray, 48) (by simp)).2 Tryd.underlying48 rfl PC5f.out ?_)
              | (go_at_call 16; refine HS6f.out.mono ?_; rintro e' x7f ⟨rfl, hb7⟩; have HB7f := hide (HB6f.out.below hb7); clear hb7 HS6f HB6f)
              | (refine wpList_load_row rfl 48 (.tmp 20) rfl b0f (by first | rfl | simp [Act.eval, Act.put]) 48 RLf.toArray (0, 0) _ (HB7f.out.v.fx (b0f, RLf.toArray, 48) (by simp)).2 Tryd.underlying48 rfl PCRf.out.i ?_)
              | (go_at_call 14; refine (HOPf.out _ HB7f.out.v.be).mono ?_; rintro e' x8f ⟨v1f, rfl, hv1, hb1⟩; have HB2f := hide (HB7f.out.below hb1); have HE2f := hide (HEPf.out x8f v1f hv1); clear hv1 hb1 HB7f HTOK)
              | (go_at_call 13; refine HE2f.out.mono ?_; rintro e' x9f ⟨vbf, rfl, hob, hb2⟩; have HB9f := hide (HB2f.out.cons hb2 hob HGLf.out); obtain ⟨ab9f, cb9f, rfl⟩ := own_slice hob HNPf.out; have HC9f := hide (copied_some (.slice abf nPf cbf) PBf x9f nPf HNPf.out (HB9f.out.pe (.slice abf nPf cbf, PBf) (by simp)).1.bsl (by have := HGLf.out; omega)); clear hob hb2 HE2f HB2f)
              | (go_at_call 8; refine HC9f.out.mono ?_; rintro e' xaf ⟨gaf, caf, rfl, hoa, hba, hga⟩; have HBaf := hide (HB9f.out.cons hba hoa HGLf.out); have HDaf := hide (HDFf.out xaf _ hoa.bsl); clear hoa hba hga HC9f HB9f)
              | (go_at_call 15; refine HDaf.out.mono ?_; rintro e' xbf ⟨vv, rfl, hob, hbb⟩; have HBbf := hide (HBaf.out.cons hbb hob HGQf.out); obtain ⟨ab2f, cb2f, rfl⟩ := own_slice hob HNQf.out; have PCbf := hide (HPQf.out ab2f nQf cb2f); have HLbf := hide (HPLf.out ab2f nQf cb2f); generalize hQb : frL kQ aQf bQ cQf dQ (.slice ab2f nQf cb2f) = Qbf at *; have HBcf := hide (HBbf.out.box Qbf.toArray 48 (by decide)); have HK := hide (six_pend HBcf.out); have HFX : Hid (∀ z pend k m, BkV w z p [(xbf.heap.size, Qbf.toArray, 48), (b5f, Q5f.toArray, 48), (b0f, RLf.toArray, 48)] pend k m → z.cell? ⟨b5f, 5, none⟩ = some (.slice a5f nQf c5f) ∧ z.cell? ⟨xbf.heap.size, 5, none⟩ = some (.slice ab2f nQf cb2f)) := hide fun z pend k m h => fx_two HL5f.out HLbf.out h; clear hQb hob hbb HDaf HBaf HBbf HBcf)
              | (refine wpList_store_row rfl 48 (.tmp 29) (.tmp 163) rfl xbf.heap.size Qbf.toArray (by first | rfl | simp [Act.eval, Act.put]) (by first | rfl | simp [Act.eval, Act.put]) 48 zFr (Go.heap_alloc_new xbf _) PCbf.out.i PCbf.out.z PCbf.out.o ?_; rw [World.setRow_alloc_new])
              | (go_at_call 12; refine (keepV HK.out (by have := HM.out; omega) (by have := HM.out; omega)).mono ?_; (try clear e8 e9); rintro e' z ⟨rfl, hz⟩; obtain ⟨e8, e9⟩ := HFX.out z _ _ _ hz; have HK2 := hide hz; clear HK hz; have HK := HK2; clear HK2)
              | (go_at_call 17; refine (holdsV HK.out (by have := HM.out; omega)).mono ?_; rintro e' z9 ⟨rfl, hz⟩; have HB9z := hide hz; clear hz HK))
            go_roundw
            case rel => exact ⟨i + 1, by omega, by go_num, (HB9z.out.some (fix' := []) (by simp)).more (by omega) (by omega)⟩
            case measure => simp [intOf]; omega
        · have HTOK := hide True.intro
          go_wp2_with (first
            | (go_at_call 10; have hk9 := HTOK.out; clear hk9; refine (num_any _ _).mono ?_; rintro e' zn ⟨rfl, hz⟩; subst hz)
            | (refine wpList_load_row rfl 36 (.tmp 7) rfl b0 (by first | rfl | simp [Act.eval, Act.put]) 36 RL.toArray (0, 0) _ (HB7.out.v.fx (b0, RL.toArray, 36) (by simp)).2 Tryd.underlying36 rfl PCR.out.i ?_)
            | (go_at_call 7; refine (HOP.out _ HB7.out.v.be).mono ?_; rintro e' x8 ⟨v1, rfl, hv1, hg1, hb1⟩; have HB2 := hide (HB7.out.below hb1); have HE2 := hide (HEP.out x8 v1 hv1 hg1 (HT.out _ HB2.out.v.be)); clear hv1 hg1 hb1 HB7 HTOK)
            | (go_at_call 6; refine HE2.out.mono ?_; rintro e' x9 ⟨vb, rfl, hob, hb2⟩; have HB9 := hide (HB2.out.cons hb2 hob HGL.out); obtain ⟨ab9, cb9, rfl⟩ := own_slice hob HNP.out; have HC9 := hide (copied_some (.slice ab nP cb) PB x9 nP HNP.out (HB9.out.pe (.slice ab nP cb, PB) (by simp)).1.bsl (by have := HGL.out; omega)); clear hob hb2 HE2 HB2)
            | (go_at_call 8; refine HC9.out.mono ?_; rintro e' xa ⟨ga, ca, rfl, hoa, hba, hga⟩; have HBa := hide (HB9.out.cons hba hoa HGL.out); have HDa := hide (HDF.out xa ga ca nP HNP.out hoa.bsl hga (HT.out _ HBa.out.v.be)); clear hoa hba hga HC9 HB9)
            | (go_at_call 9; refine HDa.out.mono ?_; rintro e' xb ⟨vv, rfl, hob, hbb⟩; have HBb := hide (HBa.out.cons hbb hob HGQ.out); obtain ⟨ab2, cb2, rfl⟩ := own_slice hob HNQ.out; have PCb := hide (HPQ.out ab2 nQ cb2); have HLb := hide (HPL.out ab2 nQ cb2); generalize hQb : (.int .i64 cQ :: pQ.row (.slice ab2 nQ cb2) : List Value) = Qb at *; have HBc := hide (HBb.out.box Qb.toArray 36 (by decide)); have HK := hide (six_pend HBc.out); have HFX : Hid (∀ z pend k m, BkV w z p [(xb.heap.size, Qb.toArray, 36), (b5, Q5.toArray, 36), (b0, RL.toArray, 36)] pend k m → z.cell? ⟨b5, 42, none⟩ = some (.slice a5 nQ c5) ∧ z.cell? ⟨xb.heap.size, 42, none⟩ = some (.slice ab2 nQ cb2)) := hide fun z pend k m h => fx_two HL5.out HLb.out h; clear hQb hob hbb HDa HBa HBb HBc)
            | (refine wpList_store_row rfl 36 (.tmp 17) (.tmp 94) rfl xb.heap.size Qb.toArray (by first | rfl | simp [Act.eval, Act.put]) (by first | rfl | simp [Act.eval, Act.put]) 36 zPk (Go.heap_alloc_new xb _) PCb.out.i PCb.out.z PCb.out.o ?_; rw [World.setRow_alloc_new])
            | (go_at_call 12; refine (keepV HK.out (by have := HM.out; omega) (by have := HM.out; omega)).mono ?_; (try clear e8 e9); rintro e' z ⟨rfl, hz⟩; obtain ⟨e8, e9⟩ := HFX.out z _ _ _ hz; have HK2 := hide hz; clear HK hz; have HK := HK2; clear HK2)
            | (go_at_call 17; refine (holdsV HK.out (by have := HM.out; omega)).mono ?_; rintro e' z9 ⟨rfl, hz⟩; have HB9z := hide hz; clear hz HK))
          go_roundw
          case rel => exact ⟨i + 1, by omega, by go_num, (HB9z.out.some (fix' := []) (by simp)).more (by omega) (by omega)⟩
          case measure => simp [intOf]; omega
      · have HS6 := hide (HSP.out e0 x6 _ _ (HBD.out x6 HB6.out.v.be) HV6.out)
        rw [HRL.out, HQ5.out] at HS6
        subst e0 e1
        have PC5 : Hid ((Tryd.prog.info? 36).map (·.size) = some Q5.toArray.size) := hide (by rw [← HQ5.out]; exact (HPQ.out a5 nQ c5).i)
        by_cases hp2 : i < n2
        · obtain ⟨s, hs⟩ : ∃ s, L2[i]? = some s := ⟨L2[i]'(by have := E2.out; omega), List.getElem?_eq_getElem (by have := E2.out; omega)⟩
          obtain ⟨fk, fa, fb, fc, fd, dv, fl⟩ := s
          obtain ⟨q1, q2, q3, q4⟩ := id H2.out
          obtain ⟨b2, off2, rfl, hbs, hrg⟩ := q3 (by have := E2.out; omega)
          have hrf := hide fun y (hy : Below w.heap.size w y) => range_below (hrg i _ hs) hy hbs
          obtain ⟨hbsl, hdl, hk, ha, hb, hc, hd'⟩ := q4 _ (List.mem_of_getElem? hs)
          have f1f : n2 ≤ c2 := by have := E2.out; omega
          have f2f : c2 ≤ 9223372036854775807 := q2
          simp only [FrI.row] at hrf hbsl hdl hk ha hb hc hd'
          obtain ⟨daf, dcf, rfl, -⟩ := id hbsl
          have PCRf := hide (fc_of fk fa fb fc fd (.slice daf fl.length dcf) rfl)
          have HOPf : Hid (∀ y, Below w.heap.size w y → Calls Tryd.prog 14 #[.agg (frL fk fa fb fc fd (.slice daf fl.length dcf)).toArray] y fun e y' => ∃ v', e = .returned (.agg (frL fk fa fb fc fd v').toArray) ∧ BSl y' v' fl ∧ Below y.heap.size y y') := hide fun y (hy : Below w.heap.size w y) => ownFrame_any y fk fa fb fc fd (.slice daf fl.length dcf) fl (hbsl.below hy) hdl
          obtain ⟨erf, PBf, eQf, kQ, aQf, bQ, cQf, dQ, DLf, g1, g2, g3, g4f, g5, g6, g11, g12, g13, g7, g8, g10⟩ := fr_both fk fa fb fc fd fl ha hb hc hd' hbsl.bytes
          have HEPf : Hid (∀ y v1f, BSl y v1f fl → Calls Tryd.prog 13 #[.agg (frL fk fa fb fc fd v1f).toArray] y fun e y' => ∃ v', e = .returned (.tuple #[v', .int .i64 (erf : Nat)]) ∧ Own y' y.heap.size v' PBf ∧ Below y.heap.size y y') := hide fun y v1f hv => by rw [← g1, ← g2]; exact encodeFrame_any y fk fa fb fc fd v1f fl hv hk hdl ha hb hc hd'
          have HDFf : Hid (∀ y v, BSl y v PBf → Calls Tryd.prog 15 #[v] y fun e y' => ∃ v', e = .returned (.tuple #[.agg (frL kQ aQf bQ cQf dQ v').toArray, .int .i64 (eQf : Nat)]) ∧ Own y' y.heap.size v' DLf ∧ Below y.heap.size y y') := hide fun y v hb => by
            have h9 := decodeFrame_any y v PBf hb
            unfold decPost frV at h9
            rw [g3, g4f, g5, g6, g11, g12, g13] at h9
            exact h9
          have HPQf := hide fun (a : Option Addr) (n c : Nat) => fc_of kQ aQf bQ cQf dQ (.slice a n c) rfl
          have HPLf : Hid (∀ (a : Option Addr) (n c : Nat), (frL kQ aQf bQ cQf dQ (.slice a n c)).toArray[5]? = some (.slice a n c)) := hide fun (a : Option Addr) (n c : Nat) => rfl
          have HSPf : Hid (erf = 0 → ∀ y v1f v2, BSl y v1f fl → BSl y v2 DLf → Calls Tryd.prog 16 #[.agg (frL fk fa fb fc fd v1f).toArray, .agg (frL kQ aQf bQ cQf dQ v2).toArray] y fun e y' => e = .returned (.bool true) ∧ Below y.heap.size y y') := hide fun h0 y v1f v2 hb1 hb2 => by
            obtain ⟨-, -, h1, h2, h3, h4, h5, h6⟩ := g10.resolve_left fun h => h h0
            subst h1 h2 h3 h4 h5 h6
            exact sameFrame_eq y kQ aQf bQ cQf dQ v1f v2 DLf hb1 hb2
          have HCSf : Hid (erf ≠ 0 ∨ (erf = 0 ∧ eQf = 0)) := hide (g10.imp id fun h => ⟨h.1, h.2.1⟩)
          have HBDf : Hid (∀ y, Below w.heap.size w y → BSl y (.slice daf fl.length dcf) fl) := hide fun y hy => hbsl.below hy
          generalize hRL : frL fk fa fb fc fd (.slice daf fl.length dcf) = RLf at *
          have HRLf := hide hRL
          have HGLf := hide g7
          have HGQf := hide g8
          obtain ⟨nPf, hnP⟩ : ∃ n, PBf.length = n := ⟨_, rfl⟩
          have HNPf := hide hnP
          obtain ⟨nQf, hnQ⟩ : ∃ n, DLf.length = n := ⟨_, rfl⟩
          have HNQf := hide hnQ
          have HIf : Hid ((Tryd.prog.info? 48).map (·.size) = some RLf.length) := hide (by rw [PCRf.out.i, List.size_toArray])
          clear hnP hnQ hRL g1 g2 g3 g4f g5 g6 g7 g8 g10 g11 g12 g13 q1 q2 q3 q4 hbs hrg hs hbsl hdl hk ha hb hc hd'
          have HTOK := hide True.intro
          go_wp2_with (first
            | (go_at_call 10; have hk9 := HTOK.out; clear hk9; refine (num_any _ _).mono ?_; rintro e' zn ⟨rfl, hz⟩; subst hz)
            | (refine wpList_load_rowW (by kernel_rfl) 36 (.tmp 7) rfl b0 (by first | rfl | simp [Act.eval, Act.put]) 36 RL.toArray (0, 0) _ (HB6.out.v.fx (b0, RL.toArray, 36) (by simp)).2 Tryd.underlying36 rfl PCR.out.i ?_)
            | (refine wpList_load_rowW (by kernel_rfl) 36 (.tmp 11) rfl b5 (by first | rfl | simp [Act.eval, Act.put]) 36 Q5.toArray (0, 0) _ (HB6.out.v.fx (b5, Q5.toArray, 36) (by simp)).2 Tryd.underlying36 rfl PC5.out ?_)
            | (go_at_call 11; refine HS6.out.mono ?_; rintro e' x7 ⟨rfl, hb7⟩; have HB7 := hide (HB6.out.below hb7); clear hb7 HS6 HB6)
            | (refine wpList_load_row rfl 36 (.tmp 7) rfl b0 (by first | rfl | simp [Act.eval, Act.put]) 36 RL.toArray (0, 0) _ (HB7.out.v.fx (b0, RL.toArray, 36) (by simp)).2 Tryd.underlying36 rfl PCR.out.i ?_)
            | (go_at_call 7; refine (HOP.out _ HB7.out.v.be).mono ?_; rintro e' x8 ⟨v1, rfl, hv1, hg1, hb1⟩; have HB2 := hide (HB7.out.below hb1); have HE2 := hide (HEP.out x8 v1 hv1 hg1 (HT.out _ HB2.out.v.be)); clear hv1 hg1 hb1 HB7 HTOK)
            | (go_at_call 6; refine HE2.out.mono ?_; rintro e' x9 ⟨vb, rfl, hob, hb2⟩; have HB9 := hide (HB2.out.cons hb2 hob HGL.out); obtain ⟨ab9, cb9, rfl⟩ := own_slice hob HNP.out; have HC9 := hide (copied_some (.slice ab nP cb) PB x9 nP HNP.out (HB9.out.pe (.slice ab nP cb, PB) (by simp)).1.bsl (by have := HGL.out; omega)); clear hob hb2 HE2 HB2)
            | (go_at_call 8; refine HC9.out.mono ?_; rintro e' xa ⟨ga, ca, rfl, hoa, hba, hga⟩; have HBa := hide (HB9.out.cons hba hoa HGL.out); have HDa := hide (HDF.out xa ga ca nP HNP.out hoa.bsl hga (HT.out _ HBa.out.v.be)); clear hoa hba hga HC9 HB9)
            | (go_at_call 9; refine HDa.out.mono ?_; rintro e' xb ⟨vv, rfl, hob, hbb⟩; have HBb := hide (HBa.out.cons hbb hob HGQ.out); obtain ⟨ab2, cb2, rfl⟩ := own_slice hob HNQ.out; have PCb := hide (HPQ.out ab2 nQ cb2); have HLb := hide (HPL.out ab2 nQ cb2); generalize hQb : (.int .i64 cQ :: pQ.row (.slice ab2 nQ cb2) : List Value) = Qb at *; have HBc := hide (HBb.out.box Qb.toArray 36 (by decide)); have HK := hide (six_pend HBc.out); have HFX : Hid (∀ z pend k m, BkV w z p [(xb.heap.size, Qb.toArray, 36), (b5, Q5.toArray, 36), (b0, RL.toArray, 36)] pend k m → z.cell? ⟨b5, 42, none⟩ = some (.slice a5 nQ c5) ∧ z.cell? ⟨xb.heap.size, 42, none⟩ = some (.slice ab2 nQ cb2)) := hide fun z pend k m h => fx_two HL5.out HLb.out h; clear hQb hob hbb HDa HBa HBb HBc)
            | (refine wpList_store_row rfl 36 (.tmp 17) (.tmp 94) rfl xb.heap.size Qb.toArray (by first | rfl | simp [Act.eval, Act.put]) (by first | rfl | simp [Act.eval, Act.put]) 36 zPk (Go.heap_alloc_new xb _) PCb.out.i PCb.out.z PCb.out.o ?_; rw [World.setRow_alloc_new])
            | (go_at_call 12; refine (keepV HK.out (by have := HM.out; omega) (by have := HM.out; omega)).mono ?_; (try clear e8 e9); rintro e' z ⟨rfl, hz⟩; obtain ⟨e8, e9⟩ := HFX.out z _ _ _ hz; have HK2 := hide hz; clear HK hz; have HK := HK2; clear HK2)
            | (go_at_call 17; refine (holdsV HK.out (by have := HM.out; omega)).mono ?_; rintro e' z9 ⟨rfl, hz⟩; have HB9z := hide hz; clear hz HK)
            | (have HB1f := hide ((HK.out.some (fix' := []) (by simp)).start.box RLf.toArray 48 (by decide)); refine wpList_load_midW (by kernel_rfl) 48 (.tmp 123) rfl b2 (off2 + i * 6) (by first | rfl | simp [Act.eval, Act.put]) RLf _ (hrf.out _ (HK.out.some (fix' := []) (by simp)).be) Tryd.underlying48 rfl HIf.out ?_; (try clear HK HFX))
            | (refine wpList_store_row rfl 48 (.tmp 20) (.tmp 124) rfl z.heap.size RLf.toArray (by first | rfl | simp [Act.eval, Act.put]) (by first | rfl | simp [Act.eval, Act.put]) 48 zFr (Go.heap_alloc_new z _) PCRf.out.i PCRf.out.z PCRf.out.o ?_; rw [World.setRow_alloc_new])
            | (refine wpList_load_row rfl 48 (.tmp 20) rfl z.heap.size (by first | rfl | simp [Act.eval, Act.put]) 48 RLf.toArray (0, 0) _ (HB1f.out.v.fx _ List.mem_cons_self).2 Tryd.underlying48 rfl PCRf.out.i ?_)
            | (go_at_call 14; refine (HOPf.out _ HB1f.out.v.be).mono ?_; rintro e' x2f ⟨v1f, rfl, hv1, hb1⟩; have HB2f := hide (HB1f.out.below hb1); have HE2f := hide (HEPf.out x2f v1f hv1); clear hv1 hb1 HB1f)
            | (go_at_call 13; refine HE2f.out.mono ?_; rintro e' x3f ⟨vbf, rfl, hob, hb2⟩; have HB3f := hide (HB2f.out.cons hb2 hob HGLf.out); obtain ⟨abf, cbf, rfl⟩ := own_slice hob HNPf.out; have HC3f := hide (copied_some _ PBf x3f nPf HNPf.out hob.bsl (by have := HGLf.out; omega)); clear hob hb2 HE2f HB2f)
            | (go_at_call 8; refine HC3f.out.mono ?_; rintro e' x4f ⟨g4f, c4f, rfl, ho4, hb4, hg4⟩; have HB4f := hide (HB3f.out.cons hb4 ho4 HGLf.out); have HD4f := hide (HDFf.out x4f _ ho4.bsl); clear ho4 hb4 hg4 HC3f HB3f)
            | (go_at_call 15; refine HD4f.out.mono ?_; rintro e' x5f ⟨v5f, rfl, ho5, hb5⟩; have HB5f := hide (HB4f.out.cons hb5 ho5 HGQf.out); have HV5f := hide ho5.bsl; obtain ⟨a5f, c5f, rfl⟩ := own_slice ho5 HNQf.out; have PC5f := hide (HPQf.out a5f nQf c5f); have HL5f := hide (HPLf.out a5f nQf c5f); generalize hQ5 : frL kQ aQf bQ cQf dQ (.slice a5f nQf c5f) = Q5f at *; have HQ5f := hide hQ5; have HB6f := hide (HB5f.out.box Q5f.toArray 48 (by decide)); have HV6f := hide (HV5f.out.below ((Below.refl _ x5f).alloc (Nat.le_refl _) (.cells Q5f.toArray 48))); clear hQ5 ho5 hb5 HD4f HB4f HB5f HV5f)
            | (refine wpList_store_row rfl 48 (.tmp 24) (.tmp 136) rfl x5f.heap.size Q5f.toArray (by first | rfl | simp [Act.eval, Act.put]) (by first | rfl | simp [Act.eval, Act.put]) 48 zFr (Go.heap_alloc_new x5f _) PC5f.out.i PC5f.out.z PC5f.out.o ?_; rw [World.setRow_alloc_new]))
          generalize x5f.alloc (.cells Q5f.toArray 48) = x6f at *
          generalize x5f.heap.size = b5f at *
          obtain ⟨b0f, hb0⟩ : ∃ b0f, b0f = z.heap.size := ⟨_, rfl⟩
          rw [← hb0] at HB6f ⊢
          clear hb0 hrf f1f f2f PC5f
          rcases HCSf.out with hnef | ⟨e0f, e1f⟩
          · have hnef' : ((erf : Int) == 0) = false := by simp only [beq_eq_false_iff_ne]; omega
            have HB7f := HB6f
            clear hnef HB6f
            have HTOK := hide True.intro
            go_wp2_with (first
              | (go_at_call 10; have hk9 := HTOK.out; clear hk9; refine (num_any _ _).mono ?_; rintro e' zn ⟨rfl, hz⟩; subst hz)
              | (refine wpList_load_row rfl 48 (.tmp 20) rfl b0f (by first | rfl | simp [Act.eval, Act.put]) 48 RLf.toArray (0, 0) _ (HB7f.out.v.fx (b0f, RLf.toArray, 48) (by simp)).2 Tryd.underlying48 rfl PCRf.out.i ?_)
              | (go_at_call 14; refine (HOPf.out _ HB7f.out.v.be).mono ?_; rintro e' x8f ⟨v1f, rfl, hv1, hb1⟩; have HB2f := hide (HB7f.out.below hb1); have HE2f := hide (HEPf.out x8f v1f hv1); clear hv1 hb1 HB7f HTOK)
              | (go_at_call 13; refine HE2f.out.mono ?_; rintro e' x9f ⟨vbf, rfl, hob, hb2⟩; have HB9f := hide (HB2f.out.cons hb2 hob HGLf.out); obtain ⟨ab9f, cb9f, rfl⟩ := own_slice hob HNPf.out; have HC9f := hide (copied_some (.slice abf nPf cbf) PBf x9f nPf HNPf.out (HB9f.out.pe (.slice abf nPf cbf, PBf) (by simp)).1.bsl (by have := HGLf.out; omega)); clear hob hb2 HE2f HB2f)
              | (go_at_call 8; refine HC9f.out.mono ?_; rintro e' xaf ⟨gaf, caf, rfl, hoa, hba, hga⟩; have HBaf := hide (HB9f.out.cons hba hoa HGLf.out); have HDaf := hide (HDFf.out xaf _ hoa.bsl); clear hoa hba hga HC9f HB9f)
              | (go_at_call 15; refine HDaf.out.mono ?_; rintro e' xbf ⟨vv, rfl, hob, hbb⟩; have HBbf := hide (HBaf.out.cons hbb hob HGQf.out); obtain ⟨ab2f, cb2f, rfl⟩ := own_slice hob HNQf.out; have PCbf := hide (HPQf.out ab2f nQf cb2f); have HLbf := hide (HPLf.out ab2f nQf cb2f); generalize hQb : frL kQ aQf bQ cQf dQ (.slice ab2f nQf cb2f) = Qbf at *; have HBcf := hide (HBbf.out.box Qbf.toArray 48 (by decide)); have HK := hide (six_pend HBcf.out); have HFX : Hid (∀ z pend k m, BkV w z p [(xbf.heap.size, Qbf.toArray, 48), (b5f, Q5f.toArray, 48), (b0f, RLf.toArray, 48)] pend k m → z.cell? ⟨b5f, 5, none⟩ = some (.slice a5f nQf c5f) ∧ z.cell? ⟨xbf.heap.size, 5, none⟩ = some (.slice ab2f nQf cb2f)) := hide fun z pend k m h => fx_two HL5f.out HLbf.out h; clear hQb hob hbb HDaf HBaf HBbf HBcf)
              | (refine wpList_store_row rfl 48 (.tmp 29) (.tmp 163) rfl xbf.heap.size Qbf.toArray (by first | rfl | simp [Act.eval, Act.put]) (by first | rfl | simp [Act.eval, Act.put]) 48 zFr (Go.heap_alloc_new xbf _) PCbf.out.i PCbf.out.z PCbf.out.o ?_; rw [World.setRow_alloc_new])
              | (go_at_call 12; refine (keepV HK.out (by have := HM.out; omega) (by have := HM.out; omega)).mono ?_; (try clear e8 e9); rintro e' z ⟨rfl, hz⟩; obtain ⟨e8, e9⟩ := HFX.out z _ _ _ hz; have HK2 := hide hz; clear HK hz; have HK := HK2; clear HK2)
              | (go_at_call 17; refine (holdsV HK.out (by have := HM.out; omega)).mono ?_; rintro e' z9 ⟨rfl, hz⟩; have HB9z := hide hz; clear hz HK))
            go_roundw
            case rel => exact ⟨i + 1, by omega, by go_num, (HB9z.out.some (fix' := []) (by simp)).more (by omega) (by omega)⟩
            case measure => simp [intOf]; omega
          · have HS6f := hide (HSPf.out e0f x6f _ _ (HBDf.out x6f HB6f.out.v.be) HV6f.out)
            rw [HRLf.out, HQ5f.out] at HS6f
            subst e0f e1f
            have PC5f : Hid ((Tryd.prog.info? 48).map (·.size) = some Q5f.toArray.size) := hide (by rw [← HQ5f.out]; exact (HPQf.out a5f nQf c5f).i)
            have HTOK := hide True.intro
            go_wp2_with (first
              | (go_at_call 10; have hk9 := HTOK.out; clear hk9; refine (num_any _ _).mono ?_; rintro e' zn ⟨rfl, hz⟩; subst hz)
              | (refine wpList_load_rowW (by kernel_rfl) 48 (.tmp 20) rfl b0f (by first | rfl | simp [Act.eval, Act.put]) 48 RLf.toArray (0, 0) _ (HB6f.out.v.fx (b0f, RLf.toArray, 48) (by simp)).2 Tryd.underlying48 rfl PCRf.out.i ?_)
              | (refine wpList_load_rowW (by kernel_rfl) 48 (.tmp 24) rfl b5f (by first | rfl | simp [Act.eval, Act.put]) 48 Q5f.toArray (0, 0) _ (HB6f.out.v.fx (b5f, Q5f.toArray, 48) (by simp)).2 Tryd.underlying48 rfl PC5f.out ?_)
              | (go_at_call 16; refine HS6f.out.mono ?_; rintro e' x7f ⟨rfl, hb7⟩; have HB7f := hide (HB6f.out.below hb7); clear hb7 HS6f HB6f)
              | (refine wpList_load_row rfl 48 (.tmp 20) rfl b0f (by first | rfl | simp [Act.eval, Act.put]) 48 RLf.toArray (0, 0) _ (HB7f.out.v.fx (b0f, RLf.toArray, 48) (by simp)).2 Tryd.underlying48 rfl PCRf.out.i ?_)
              | (go_at_call 14; refine (HOPf.out _ HB7f.out.v.be).mono ?_; rintro e' x8f ⟨v1f, rfl, hv1, hb1⟩; have HB2f := hide (HB7f.out.below hb1); have HE2f := hide (HEPf.out x8f v1f hv1); clear hv1 hb1 HB7f HTOK)
              | (go_at_call 13; refine HE2f.out.mono ?_; rintro e' x9f ⟨vbf, rfl, hob, hb2⟩; have HB9f := hide (HB2f.out.cons hb2 hob HGLf.out); obtain ⟨ab9f, cb9f, rfl⟩ := own_slice hob HNPf.out; have HC9f := hide (copied_some (.slice abf nPf cbf) PBf x9f nPf HNPf.out (HB9f.out.pe (.slice abf nPf cbf, PBf) (by simp)).1.bsl (by have := HGLf.out; omega)); clear hob hb2 HE2f HB2f)
              | (go_at_call 8; refine HC9f.out.mono ?_; rintro e' xaf ⟨gaf, caf, rfl, hoa, hba, hga⟩; have HBaf := hide (HB9f.out.cons hba hoa HGLf.out); have HDaf := hide (HDFf.out xaf _ hoa.bsl); clear hoa hba hga HC9f HB9f)
              | (go_at_call 15; refine HDaf.out.mono ?_; rintro e' xbf ⟨vv, rfl, hob, hbb⟩; have HBbf := hide (HBaf.out.cons hbb hob HGQf.out); obtain ⟨ab2f, cb2f, rfl⟩ := own_slice hob HNQf.out; have PCbf := hide (HPQf.out ab2f nQf cb2f); have HLbf := hide (HPLf.out ab2f nQf cb2f); generalize hQb : frL kQ aQf bQ cQf dQ (.slice ab2f nQf cb2f) = Qbf at *; have HBcf := hide (HBbf.out.box Qbf.toArray 48 (by decide)); have HK := hide (six_pend HBcf.out); have HFX : Hid (∀ z pend k m, BkV w z p [(xbf.heap.size, Qbf.toArray, 48), (b5f, Q5f.toArray, 48), (b0f, RLf.toArray, 48)] pend k m → z.cell? ⟨b5f, 5, none⟩ = some (.slice a5f nQf c5f) ∧ z.cell? ⟨xbf.heap.size, 5, none⟩ = some (.slice ab2f nQf cb2f)) := hide fun z pend k m h => fx_two HL5f.out HLbf.out h; clear hQb hob hbb HDaf HBaf HBbf HBcf)
              | (refine wpList_store_row rfl 48 (.tmp 29) (.tmp 163) rfl xbf.heap.size Qbf.toArray (by first | rfl | simp [Act.eval, Act.put]) (by first | rfl | simp [Act.eval, Act.put]) 48 zFr (Go.heap_alloc_new xbf _) PCbf.out.i PCbf.out.z PCbf.out.o ?_; rw [World.setRow_alloc_new])
              | (go_at_call 12; refine (keepV HK.out (by have := HM.out; omega) (by have := HM.out; omega)).mono ?_; (try clear e8 e9); rintro e' z ⟨rfl, hz⟩; obtain ⟨e8, e9⟩ := HFX.out z _ _ _ hz; have HK2 := hide hz; clear HK hz; have HK := HK2; clear HK2)
              | (go_at_call 17; refine (holdsV HK.out (by have := HM.out; omega)).mono ?_; rintro e' z9 ⟨rfl, hz⟩; have HB9z := hide hz; clear hz HK))
            go_roundw
            case rel => exact ⟨i + 1, by omega, by go_num, (HB9z.out.some (fix' := []) (by simp)).more (by omega) (by omega)⟩
            case measure => simp [intOf]; omega
        · have HTOK := hide True.intro
          go_wp2_with (first
            | (go_at_call 10; have hk9 := HTOK.out; clear hk9; refine (num_any _ _).mono ?_; rintro e' zn ⟨rfl, hz⟩; subst hz)
            | (refine wpList_load_rowW (by kernel_rfl) 36 (.tmp 7) rfl b0 (by first | rfl | simp [Act.eval, Act.put]) 36 RL.toArray (0, 0) _ (HB6.out.v.fx (b0, RL.toArray, 36) (by simp)).2 Tryd.underlying36 rfl PCR.out.i ?_)
            | (refine wpList_load_rowW (by kernel_rfl) 36 (.tmp 11) rfl b5 (by first | rfl | simp [Act.eval, Act.put]) 36 Q5.toArray (0, 0) _ (HB6.out.v.fx (b5, Q5.toArray, 36) (by simp)).2 Tryd.underlying36 rfl PC5.out ?_)
            | (go_at_call 11; refine HS6.out.mono ?_; rintro e' x7 ⟨rfl, hb7⟩; have HB7 := hide (HB6.out.below hb7); clear hb7 HS6 HB6)
            | (refine wpList_load_row rfl 36 (.tmp 7) rfl b0 (by first | rfl | simp [Act.eval, Act.put]) 36 RL.toArray (0, 0) _ (HB7.out.v.fx (b0, RL.toArray, 36) (by simp)).2 Tryd.underlying36 rfl PCR.out.i ?_)
            | (go_at_call 7; refine (HOP.out _ HB7.out.v.be).mono ?_; rintro e' x8 ⟨v1, rfl, hv1, hg1, hb1⟩; have HB2 := hide (HB7.out.below hb1); have HE2 := hide (HEP.out x8 v1 hv1 hg1 (HT.out _ HB2.out.v.be)); clear hv1 hg1 hb1 HB7 HTOK)
            | (go_at_call 6; refine HE2.out.mono ?_; rintro e' x9 ⟨vb, rfl, hob, hb2⟩; have HB9 := hide (HB2.out.cons hb2 hob HGL.out); obtain ⟨ab9, cb9, rfl⟩ := own_slice hob HNP.out; have HC9 := hide (copied_some (.slice ab nP cb) PB x9 nP HNP.out (HB9.out.pe (.slice ab nP cb, PB) (by simp)).1.bsl (by have := HGL.out; omega)); clear hob hb2 HE2 HB2)
            | (go_at_call 8; refine HC9.out.mono ?_; rintro e' xa ⟨ga, ca, rfl, hoa, hba, hga⟩; have HBa := hide (HB9.out.cons hba hoa HGL.out); have HDa := hide (HDF.out xa ga ca nP HNP.out hoa.bsl hga (HT.out _ HBa.out.v.be)); clear hoa hba hga HC9 HB9)
            | (go_at_call 9; refine HDa.out.mono ?_; rintro e' xb ⟨vv, rfl, hob, hbb⟩; have HBb := hide (HBa.out.cons hbb hob HGQ.out); obtain ⟨ab2, cb2, rfl⟩ := own_slice hob HNQ.out; have PCb := hide (HPQ.out ab2 nQ cb2); have HLb := hide (HPL.out ab2 nQ cb2); generalize hQb : (.int .i64 cQ :: pQ.row (.slice ab2 nQ cb2) : List Value) = Qb at *; have HBc := hide (HBb.out.box Qb.toArray 36 (by decide)); have HK := hide (six_pend HBc.out); have HFX : Hid (∀ z pend k m, BkV w z p [(xb.heap.size, Qb.toArray, 36), (b5, Q5.toArray, 36), (b0, RL.toArray, 36)] pend k m → z.cell? ⟨b5, 42, none⟩ = some (.slice a5 nQ c5) ∧ z.cell? ⟨xb.heap.size, 42, none⟩ = some (.slice ab2 nQ cb2)) := hide fun z pend k m h => fx_two HL5.out HLb.out h; clear hQb hob hbb HDa HBa HBb HBc)
            | (refine wpList_store_row rfl 36 (.tmp 17) (.tmp 94) rfl xb.heap.size Qb.toArray (by first | rfl | simp [Act.eval, Act.put]) (by first | rfl | simp [Act.eval, Act.put]) 36 zPk (Go.heap_alloc_new xb _) PCb.out.i PCb.out.z PCb.out.o ?_; rw [World.setRow_alloc_new])
            | (go_at_call 12; refine (keepV HK.out (by have := HM.out; omega) (by have := HM.out; omega)).mono ?_; (try clear e8 e9); rintro e' z ⟨rfl, hz⟩; obtain ⟨e8, e9⟩ := HFX.out z _ _ _ hz; have HK2 := hide hz; clear HK hz; have HK := HK2; clear HK2)
            | (go_at_call 17; refine (holdsV HK.out (by have := HM.out; omega)).mono ?_; rintro e' z9 ⟨rfl, hz⟩; have HB9z := hide hz; clear hz HK))
          go_roundw
          case rel => exact ⟨i + 1, by omega, by go_num, (HB9z.out.some (fix' := []) (by simp)).more (by omega) (by omega)⟩
          case measure => simp [intOf]; omega
    · by_cases hp3 : i < n2
      · obtain ⟨s, hs⟩ : ∃ s, L2[i]? = some s := ⟨L2[i]'(by have := E2.out; omega), List.getElem?_eq_getElem (by have := E2.out; omega)⟩
        obtain ⟨fk, fa, fb, fc, fd, dv, fl⟩ := s
        obtain ⟨q1, q2, q3, q4⟩ := id H2.out
        obtain ⟨b2, off2, rfl, hbs, hrg⟩ := q3 (by have := E2.out; omega)
        have hrf := hide fun y (hy : Below w.heap.size w y) => range_below (hrg i _ hs) hy hbs
        obtain ⟨hbsl, hdl, hk, ha, hb, hc, hd'⟩ := q4 _ (List.mem_of_getElem? hs)
        have f1f : n2 ≤ c2 := by have := E2.out; omega
        have f2f : c2 ≤ 9223372036854775807 := q2
        simp only [FrI.row] at hrf hbsl hdl hk ha hb hc hd'
        obtain ⟨daf, dcf, rfl, -⟩ := id hbsl
        have PCRf := hide (fc_of fk fa fb fc fd (.slice daf fl.length dcf) rfl)
        have HOPf : Hid (∀ y, Below w.heap.size w y → Calls Tryd.prog 14 #[.agg (frL fk fa fb fc fd (.slice daf fl.length dcf)).toArray] y fun e y' => ∃ v', e = .returned (.agg (frL fk fa fb fc fd v').toArray) ∧ BSl y' v' fl ∧ Below y.heap.size y y') := hide fun y (hy : Below w.heap.size w y) => ownFrame_any y fk fa fb fc fd (.slice daf fl.length dcf) fl (hbsl.below hy) hdl
        obtain ⟨erf, PBf, eQf, kQ, aQf, bQ, cQf, dQ, DLf, g1, g2, g3, g4f, g5, g6, g11, g12, g13, g7, g8, g10⟩ := fr_both fk fa fb fc fd fl ha hb hc hd' hbsl.bytes
        have HEPf : Hid (∀ y v1f, BSl y v1f fl → Calls Tryd.prog 13 #[.agg (frL fk fa fb fc fd v1f).toArray] y fun e y' => ∃ v', e = .returned (.tuple #[v', .int .i64 (erf : Nat)]) ∧ Own y' y.heap.size v' PBf ∧ Below y.heap.size y y') := hide fun y v1f hv => by rw [← g1, ← g2]; exact encodeFrame_any y fk fa fb fc fd v1f fl hv hk hdl ha hb hc hd'
        have HDFf : Hid (∀ y v, BSl y v PBf → Calls Tryd.prog 15 #[v] y fun e y' => ∃ v', e = .returned (.tuple #[.agg (frL kQ aQf bQ cQf dQ v').toArray, .int .i64 (eQf : Nat)]) ∧ Own y' y.heap.size v' DLf ∧ Below y.heap.size y y') := hide fun y v hb => by
          have h9 := decodeFrame_any y v PBf hb
          unfold decPost frV at h9
          rw [g3, g4f, g5, g6, g11, g12, g13] at h9
          exact h9
        have HPQf := hide fun (a : Option Addr) (n c : Nat) => fc_of kQ aQf bQ cQf dQ (.slice a n c) rfl
        have HPLf : Hid (∀ (a : Option Addr) (n c : Nat), (frL kQ aQf bQ cQf dQ (.slice a n c)).toArray[5]? = some (.slice a n c)) := hide fun (a : Option Addr) (n c : Nat) => rfl
        have HSPf : Hid (erf = 0 → ∀ y v1f v2, BSl y v1f fl → BSl y v2 DLf → Calls Tryd.prog 16 #[.agg (frL fk fa fb fc fd v1f).toArray, .agg (frL kQ aQf bQ cQf dQ v2).toArray] y fun e y' => e = .returned (.bool true) ∧ Below y.heap.size y y') := hide fun h0 y v1f v2 hb1 hb2 => by
          obtain ⟨-, -, h1, h2, h3, h4, h5, h6⟩ := g10.resolve_left fun h => h h0
          subst h1 h2 h3 h4 h5 h6
          exact sameFrame_eq y kQ aQf bQ cQf dQ v1f v2 DLf hb1 hb2
        have HCSf : Hid (erf ≠ 0 ∨ (erf = 0 ∧ eQf = 0)) := hide (g10.imp id fun h => ⟨h.1, h.2.1⟩)
        have HBDf : Hid (∀ y, Below w.heap.size w y → BSl y (.slice daf fl.length dcf) fl) := hide fun y hy => hbsl.below hy
        generalize hRL : frL fk fa fb fc fd (.slice daf fl.length dcf) = RLf at *
        have HRLf := hide hRL
        have HGLf := hide g7
        have HGQf := hide g8
        obtain ⟨nPf, hnP⟩ : ∃ n, PBf.length = n := ⟨_, rfl⟩
        have HNPf := hide hnP
        obtain ⟨nQf, hnQ⟩ : ∃ n, DLf.length = n := ⟨_, rfl⟩
        have HNQf := hide hnQ
        have HIf : Hid ((Tryd.prog.info? 48).map (·.size) = some RLf.length) := hide (by rw [PCRf.out.i, List.size_toArray])
        clear hnP hnQ hRL g1 g2 g3 g4f g5 g6 g7 g8 g10 g11 g12 g13 q1 q2 q3 q4 hbs hrg hs hbsl hdl hk ha hb hc hd'
        go_wp2_with (first
          | (have HB1f := hide (HB.out.start.box RLf.toArray 48 (by decide)); refine wpList_load_midW (by kernel_rfl) 48 (.tmp 123) rfl b2 (off2 + i * 6) (by first | rfl | simp [Act.eval, Act.put]) RLf _ (hrf.out _ HB.out.be) Tryd.underlying48 rfl HIf.out ?_; (try clear HK HFX))
          | (refine wpList_store_row rfl 48 (.tmp 20) (.tmp 124) rfl wr.heap.size RLf.toArray (by first | rfl | simp [Act.eval, Act.put]) (by first | rfl | simp [Act.eval, Act.put]) 48 zFr (Go.heap_alloc_new wr _) PCRf.out.i PCRf.out.z PCRf.out.o ?_; rw [World.setRow_alloc_new])
          | (refine wpList_load_row rfl 48 (.tmp 20) rfl wr.heap.size (by first | rfl | simp [Act.eval, Act.put]) 48 RLf.toArray (0, 0) _ (HB1f.out.v.fx _ List.mem_cons_self).2 Tryd.underlying48 rfl PCRf.out.i ?_)
          | (go_at_call 14; refine (HOPf.out _ HB1f.out.v.be).mono ?_; rintro e' x2f ⟨v1f, rfl, hv1, hb1⟩; have HB2f := hide (HB1f.out.below hb1); have HE2f := hide (HEPf.out x2f v1f hv1); clear hv1 hb1 HB1f)
          | (go_at_call 13; refine HE2f.out.mono ?_; rintro e' x3f ⟨vbf, rfl, hob, hb2⟩; have HB3f := hide (HB2f.out.cons hb2 hob HGLf.out); obtain ⟨abf, cbf, rfl⟩ := own_slice hob HNPf.out; have HC3f := hide (copied_some _ PBf x3f nPf HNPf.out hob.bsl (by have := HGLf.out; omega)); clear hob hb2 HE2f HB2f)
          | (go_at_call 8; refine HC3f.out.mono ?_; rintro e' x4f ⟨g4f, c4f, rfl, ho4, hb4, hg4⟩; have HB4f := hide (HB3f.out.cons hb4 ho4 HGLf.out); have HD4f := hide (HDFf.out x4f _ ho4.bsl); clear ho4 hb4 hg4 HC3f HB3f)
          | (go_at_call 15; refine HD4f.out.mono ?_; rintro e' x5f ⟨v5f, rfl, ho5, hb5⟩; have HB5f := hide (HB4f.out.cons hb5 ho5 HGQf.out); have HV5f := hide ho5.bsl; obtain ⟨a5f, c5f, rfl⟩ := own_slice ho5 HNQf.out; have PC5f := hide (HPQf.out a5f nQf c5f); have HL5f := hide (HPLf.out a5f nQf c5f); generalize hQ5 : frL kQ aQf bQ cQf dQ (.slice a5f nQf c5f) = Q5f at *; have HQ5f := hide hQ5; have HB6f := hide (HB5f.out.box Q5f.toArray 48 (by decide)); have HV6f := hide (HV5f.out.below ((Below.refl _ x5f).alloc (Nat.le_refl _) (.cells Q5f.toArray 48))); clear hQ5 ho5 hb5 HD4f HB4f HB5f HV5f)
          | (refine wpList_store_row rfl 48 (.tmp 24) (.tmp 136) rfl x5f.heap.size Q5f.toArray (by first | rfl | simp [Act.eval, Act.put]) (by first | rfl | simp [Act.eval, Act.put]) 48 zFr (Go.heap_alloc_new x5f _) PC5f.out.i PC5f.out.z PC5f.out.o ?_; rw [World.setRow_alloc_new]))
        generalize x5f.alloc (.cells Q5f.toArray 48) = x6f at *
        generalize x5f.heap.size = b5f at *
        obtain ⟨b0f, hb0⟩ : ∃ b0f, b0f = wr.heap.size := ⟨_, rfl⟩
        rw [← hb0] at HB6f ⊢
        clear hb0 hrf f1f f2f PC5f
        rcases HCSf.out with hnef | ⟨e0f, e1f⟩
        · have hnef' : ((erf : Int) == 0) = false := by simp only [beq_eq_false_iff_ne]; omega
          have HB7f := HB6f
          clear hnef HB6f
          have HTOK := hide True.intro
          go_wp2_with (first
            | (go_at_call 10; have hk9 := HTOK.out; clear hk9; refine (num_any _ _).mono ?_; rintro e' zn ⟨rfl, hz⟩; subst hz)
            | (refine wpList_load_row rfl 48 (.tmp 20) rfl b0f (by first | rfl | simp [Act.eval, Act.put]) 48 RLf.toArray (0, 0) _ (HB7f.out.v.fx (b0f, RLf.toArray, 48) (by simp)).2 Tryd.underlying48 rfl PCRf.out.i ?_)
            | (go_at_call 14; refine (HOPf.out _ HB7f.out.v.be).mono ?_; rintro e' x8f ⟨v1f, rfl, hv1, hb1⟩; have HB2f := hide (HB7f.out.below hb1); have HE2f := hide (HEPf.out x8f v1f hv1); clear hv1 hb1 HB7f HTOK)
            | (go_at_call 13; refine HE2f.out.mono ?_; rintro e' x9f ⟨vbf, rfl, hob, hb2⟩; have HB9f := hide (HB2f.out.cons hb2 hob HGLf.out); obtain ⟨ab9f, cb9f, rfl⟩ := own_slice hob HNPf.out; have HC9f := hide (copied_some (.slice abf nPf cbf) PBf x9f nPf HNPf.out (HB9f.out.pe (.slice abf nPf cbf, PBf) (by simp)).1.bsl (by have := HGLf.out; omega)); clear hob hb2 HE2f HB2f)
            | (go_at_call 8; refine HC9f.out.mono ?_; rintro e' xaf ⟨gaf, caf, rfl, hoa, hba, hga⟩; have HBaf := hide (HB9f.out.cons hba hoa HGLf.out); have HDaf := hide (HDFf.out xaf _ hoa.bsl); clear hoa hba hga HC9f HB9f)
            | (go_at_call 15; refine HDaf.out.mono ?_; rintro e' xbf ⟨vv, rfl, hob, hbb⟩; have HBbf := hide (HBaf.out.cons hbb hob HGQf.out); obtain ⟨ab2f, cb2f, rfl⟩ := own_slice hob HNQf.out; have PCbf := hide (HPQf.out ab2f nQf cb2f); have HLbf := hide (HPLf.out ab2f nQf cb2f); generalize hQb : frL kQ aQf bQ cQf dQ (.slice ab2f nQf cb2f) = Qbf at *; have HBcf := hide (HBbf.out.box Qbf.toArray 48 (by decide)); have HK := hide (six_pend HBcf.out); have HFX : Hid (∀ z pend k m, BkV w z p [(xbf.heap.size, Qbf.toArray, 48), (b5f, Q5f.toArray, 48), (b0f, RLf.toArray, 48)] pend k m → z.cell? ⟨b5f, 5, none⟩ = some (.slice a5f nQf c5f) ∧ z.cell? ⟨xbf.heap.size, 5, none⟩ = some (.slice ab2f nQf cb2f)) := hide fun z pend k m h => fx_two HL5f.out HLbf.out h; clear hQb hob hbb HDaf HBaf HBbf HBcf)
            | (refine wpList_store_row rfl 48 (.tmp 29) (.tmp 163) rfl xbf.heap.size Qbf.toArray (by first | rfl | simp [Act.eval, Act.put]) (by first | rfl | simp [Act.eval, Act.put]) 48 zFr (Go.heap_alloc_new xbf _) PCbf.out.i PCbf.out.z PCbf.out.o ?_; rw [World.setRow_alloc_new])
            | (go_at_call 12; refine (keepV HK.out (by have := HM.out; omega) (by have := HM.out; omega)).mono ?_; (try clear e8 e9); rintro e' z ⟨rfl, hz⟩; obtain ⟨e8, e9⟩ := HFX.out z _ _ _ hz; have HK2 := hide hz; clear HK hz; have HK := HK2; clear HK2)
            | (go_at_call 17; refine (holdsV HK.out (by have := HM.out; omega)).mono ?_; rintro e' z9 ⟨rfl, hz⟩; have HB9z := hide hz; clear hz HK))
          go_roundw
          case rel => exact ⟨i + 1, by omega, by go_num, (HB9z.out.some (fix' := []) (by simp)).more (by omega) (by omega)⟩
          case measure => simp [intOf]; omega
        · have HS6f := hide (HSPf.out e0f x6f _ _ (HBDf.out x6f HB6f.out.v.be) HV6f.out)
          rw [HRLf.out, HQ5f.out] at HS6f
          subst e0f e1f
          have PC5f : Hid ((Tryd.prog.info? 48).map (·.size) = some Q5f.toArray.size) := hide (by rw [← HQ5f.out]; exact (HPQf.out a5f nQf c5f).i)
          have HTOK := hide True.intro
          go_wp2_with (first
            | (go_at_call 10; have hk9 := HTOK.out; clear hk9; refine (num_any _ _).mono ?_; rintro e' zn ⟨rfl, hz⟩; subst hz)
            | (refine wpList_load_rowW (by kernel_rfl) 48 (.tmp 20) rfl b0f (by first | rfl | simp [Act.eval, Act.put]) 48 RLf.toArray (0, 0) _ (HB6f.out.v.fx (b0f, RLf.toArray, 48) (by simp)).2 Tryd.underlying48 rfl PCRf.out.i ?_)
            | (refine wpList_load_rowW (by kernel_rfl) 48 (.tmp 24) rfl b5f (by first | rfl | simp [Act.eval, Act.put]) 48 Q5f.toArray (0, 0) _ (HB6f.out.v.fx (b5f, Q5f.toArray, 48) (by simp)).2 Tryd.underlying48 rfl PC5f.out ?_)
            | (go_at_call 16; refine HS6f.out.mono ?_; rintro e' x7f ⟨rfl, hb7⟩; have HB7f := hide (HB6f.out.below hb7); clear hb7 HS6f HB6f)
            | (refine wpList_load_row rfl 48 (.tmp 20) rfl b0f (by first | rfl | simp [Act.eval, Act.put]) 48 RLf.toArray (0, 0) _ (HB7f.out.v.fx (b0f, RLf.toArray, 48) (by simp)).2 Tryd.underlying48 rfl PCRf.out.i ?_)
            | (go_at_call 14; refine (HOPf.out _ HB7f.out.v.be).mono ?_; rintro e' x8f ⟨v1f, rfl, hv1, hb1⟩; have HB2f := hide (HB7f.out.below hb1); have HE2f := hide (HEPf.out x8f v1f hv1); clear hv1 hb1 HB7f HTOK)
            | (go_at_call 13; refine HE2f.out.mono ?_; rintro e' x9f ⟨vbf, rfl, hob, hb2⟩; have HB9f := hide (HB2f.out.cons hb2 hob HGLf.out); obtain ⟨ab9f, cb9f, rfl⟩ := own_slice hob HNPf.out; have HC9f := hide (copied_some (.slice abf nPf cbf) PBf x9f nPf HNPf.out (HB9f.out.pe (.slice abf nPf cbf, PBf) (by simp)).1.bsl (by have := HGLf.out; omega)); clear hob hb2 HE2f HB2f)
            | (go_at_call 8; refine HC9f.out.mono ?_; rintro e' xaf ⟨gaf, caf, rfl, hoa, hba, hga⟩; have HBaf := hide (HB9f.out.cons hba hoa HGLf.out); have HDaf := hide (HDFf.out xaf _ hoa.bsl); clear hoa hba hga HC9f HB9f)
            | (go_at_call 15; refine HDaf.out.mono ?_; rintro e' xbf ⟨vv, rfl, hob, hbb⟩; have HBbf := hide (HBaf.out.cons hbb hob HGQf.out); obtain ⟨ab2f, cb2f, rfl⟩ := own_slice hob HNQf.out; have PCbf := hide (HPQf.out ab2f nQf cb2f); have HLbf := hide (HPLf.out ab2f nQf cb2f); generalize hQb : frL kQ aQf bQ cQf dQ (.slice ab2f nQf cb2f) = Qbf at *; have HBcf := hide (HBbf.out.box Qbf.toArray 48 (by decide)); have HK := hide (six_pend HBcf.out); have HFX : Hid (∀ z pend k m, BkV w z p [(xbf.heap.size, Qbf.toArray, 48), (b5f, Q5f.toArray, 48), (b0f, RLf.toArray, 48)] pend k m → z.cell? ⟨b5f, 5, none⟩ = some (.slice a5f nQf c5f) ∧ z.cell? ⟨xbf.heap.size, 5, none⟩ = some (.slice ab2f nQf cb2f)) := hide fun z pend k m h => fx_two HL5f.out HLbf.out h; clear hQb hob hbb HDaf HBaf HBbf HBcf)
            | (refine wpList_store_row rfl 48 (.tmp 29) (.tmp 163) rfl xbf.heap.size Qbf.toArray (by first | rfl | simp [Act.eval, Act.put]) (by first | rfl | simp [Act.eval, Act.put]) 48 zFr (Go.heap_alloc_new xbf _) PCbf.out.i PCbf.out.z PCbf.out.o ?_; rw [World.setRow_alloc_new])
            | (go_at_call 12; refine (keepV HK.out (by have := HM.out; omega) (by have := HM.out; omega)).mono ?_; (try clear e8 e9); rintro e' z ⟨rfl, hz⟩; obtain ⟨e8, e9⟩ := HFX.out z _ _ _ hz; have HK2 := hide hz; clear HK hz; have HK := HK2; clear HK2)
            | (go_at_call 17; refine (holdsV HK.out (by have := HM.out; omega)).mono ?_; rintro e' z9 ⟨rfl, hz⟩; have HB9z := hide hz; clear hz HK))
          go_roundw
          case rel => exact ⟨i + 1, by omega, by go_num, (HB9z.out.some (fix' := []) (by simp)).more (by omega) (by omega)⟩
          case measure => simp [intOf]; omega
      · have hM4 : n1 ≤ i := by omega
        have hM5 : n2 ≤ i := by omega
        go_wp2_with fail
        go_ret
        exact ⟨rfl, HB.out.be⟩
end Go.Proofs.YtedhohamdbplhaaDoor
namespace Go.Proofs.YtedhohamdbplhaaDoor
open Go.ChangeShapes Go.WideShapes Go.ChangeAt Go.RowKit
open Num
set_option linter.unusedVariables false
set_option linter.unusedSimpArgs false
set_option maxRecDepth 20000

theorem own : ownKnob Tryd.prog.godebug = none := by kernel_rfl
theorem laidOut : laidOutB Tryd.prog = true := by kernel_rfl
theorem cellsFrame : Tryd.prog.cellsOf 48 = 6 := by kernel_rfl
theorem cellsI : Tryd.prog.cellsOf 3 = 1 := by kernel_rfl
theorem cellsV : Tryd.prog.cellsOf 29 = 1 := by kernel_rfl
theorem cellsB : Tryd.prog.cellsOf 34 = 1 := by kernel_rfl

def IsRow (k : IntKind) (w : World) (a : Option Addr) (len cap : Nat) (zs : List Int) : Prop :=
  (a = none ∧ len = 0 ∧ cap = 0 ∧ zs = []) ∨
  ∃ x, a = some x ∧ len ≤ cap ∧ cap ≤ maxLen ∧ zs.length = cap ∧ (∀ i, i < zs.length → w.cell? (x.add i) = some (.int k (zs.getD i 0))) ∧ ∀ n ∈ zs, (Lit.int k n).wf = true

/-- what came in, as bytes -/
theorem bsl_of_row {w : World} {a : Option Addr} {len cap : Nat} {zs : List Int} (h : IsRow .u8 w a len cap zs) : ∃ l : List Nat, l.length = len ∧ BSl w (.slice a len cap) l := by
  rcases h with ⟨rfl, rfl, rfl, rfl⟩ | ⟨x, rfl, hl, hm, hz, hcell, hwz⟩
  · exact ⟨[], rfl, none, 0, rfl, Nat.le_refl _, by unfold maxLen; omega, fun _ => rfl, by simp, by simp⟩
  · have hlen : ((zs.take len).map Int.toNat).length = len := by simp; omega
    refine ⟨(zs.take len).map Int.toNat, hlen, _, cap, by rw [hlen], by omega, hm, by simp, ?_, ?_⟩
    · intro b hb
      obtain ⟨n, hn, rfl⟩ := List.mem_map.1 hb
      have := bounds_u8 (hwz n (List.mem_of_mem_take hn))
      omega
    · intro hp
      obtain ⟨b, off, rfl, hc⟩ := ints_at hcell (by omega)
      refine ⟨b, off, rfl, fun i hi => ?_⟩
      rw [hc i (by omega)]
      have hi' : i < zs.length := by omega
      have hb := bounds_u8 (hwz zs[i] (List.getElem_mem hi'))
      have hi2 : i < len := by omega
      have e2 : ((zs.take len).map Int.toNat).getD i 0 = zs[i].toNat := by
        simp [List.getD, hi', hi2]
      have e3 : zs.getD i 0 = zs[i] := by simp [List.getD, hi']
      rw [e2, e3, Int.toNat_of_nonneg hb.1]

/-- a list of bytes that came in: what it reads as, and how long it may be -/
theorem open_bytes {H : Type} {enc : TypeId × Value → H} {W : World} {base : Nat} {v : Value} {d : DataW H} {p : List MemPlace} {ts : List TypeId} {ds : List (DataW H)} (j : Nat) (hts : ts[j]? = some 34) (hds : ds[j]? = some d)
    (hsz : (DataW.weightsEach Tryd.prog ts ds).all (· ≤ reachBytes) = true) (hok : Value.okWide Tryd.prog W .any base 34 v) (h1 : DataW.Trod enc Tryd.prog W 0 (fun _ => true) true 34 v d p) : ∃ l : List Nat, BSl W v l ∧ l.length ≤ 140737488351232 := by
  obtain ⟨a1, len1, cap1, rfl⟩ := okWide_slice Tryd.underlying34 hok
  obtain ⟨z1, w1, hr1⟩ : ∃ zs, IsRow .u8 W a1 len1 cap1 zs ∧ len1 ≤ 140737488351232 := by
    obtain ⟨fuel, hf⟩ := h1
    rcases open_ints Tryd.underlying34 Tryd.underlying5 (by kernel_rfl) hf with ⟨hcs, _⟩ | ⟨x, l, c, zs, hcs, _, hl, hm, hz, hx, hcell, hwz⟩
    · simp [Value.cells] at hcs
      obtain ⟨rfl, rfl, rfl⟩ := hcs
      exact ⟨[], .inl ⟨rfl, rfl, rfl, rfl⟩, by omega⟩
    · simp [Value.cells] at hcs
      obtain ⟨rfl, rfl, rfl⟩ := hcs
      simp only [Prod.mk.injEq] at hx
      obtain ⟨rfl, hp⟩ := hx
      have hw := sized_slice hsz (j := j) (t := 34) (e := 5) hts hds Tryd.underlying34
      rw [show Tryd.prog.bytesOf 5 = 1 from by kernel_rfl] at hw
      simp only [lits, List.length_map, List.length_take, List.length_drop, reachBytes] at hw
      simp only [if_true] at hz
      exact ⟨zs, .inr ⟨_, rfl, hl, hm, hz, hcell, hwz⟩, by omega⟩
  obtain ⟨l, hll, hb⟩ := bsl_of_row w1
  exact ⟨l, hb, by omega⟩
theorem trod_place_lt {H : Type} {enc : TypeId × Value → H} {W : World} {t : TypeId} {v : Value} {d : DataW H} {p : List MemPlace} (h1 : DataW.Trod enc Tryd.prog W 0 (fun _ => true) true t v d p) : ∀ x ∈ p, x.block < W.heap.size := by
  obtain ⟨m, hm⟩ := h1; exact DataW.trod_lt m _ _ _ hm
/-- it reads on as it did -/
theorem again_bytes {H : Type} {enc : TypeId × Value → H} {W W' : World} {v : Value} {d : DataW H} {p : List MemPlace} (h1 : DataW.Trod enc Tryd.prog W 0 (fun _ => true) true 34 v d p) (bel : Below W.heap.size W W') :
    DataW.Trod enc Tryd.prog W' 0 (fun b => decide (b < W.heap.size)) true 34 v d p := Below.trod laidOut (by kernel_rfl) (of_decide_eq_true (by kernel_rfl)) h1 bel (trod_place_lt h1)

theorem sized_struct {H : Type} {P : Program} {ts : List TypeId} {ds : List (DataW H)} (h : (DataW.weightsEach P ts ds).all (· ≤ reachBytes) = true) {j : Nat} {t : TypeId} {xs : List (DataW H)} {fs : Array Field} (ht : ts[j]? = some t) (hd : ds[j]? = some (.agg xs)) (hu : P.underlying t = some (.struct fs)) :
    (DataW.weightsEach P (fs.toList.map (·.type)) xs).all (· ≤ reachBytes) = true := by
  refine List.all_eq_true.2 fun n hn => List.all_eq_true.1 h _ (DataW.weights_mem_each ht hd n ?_)
  simpa [DataW.weights, hu] using hn

/-- a field of bytes: what it reads as, and how long it may be -/
theorem open_field {H : Type} {enc : TypeId × Value → H} {W : World} {n : Nat} {v : Value} {y : DataW H × List MemPlace} {ts : List TypeId} {ds : List (DataW H)} (j : Nat) (hts : ts[j]? = some 34) (hds : ds[j]? = some y.1)
    (hsz : (DataW.weightsEach Tryd.prog ts ds).all (· ≤ reachBytes) = true) (h : DataW.trod enc Tryd.prog W 0 (fun _ => true) true n 34 [v] = some y) : ∃ l : List Nat, BSl W v l ∧ l.length ≤ 140737488351232 := by
  rcases open_ints Tryd.underlying34 Tryd.underlying5 (by kernel_rfl) h with ⟨hcs, hy⟩ | ⟨x, len, cap, zs, hcs, _, hl, hm, hz, hx, hcell, hwz⟩
  · simp at hcs
    subst hcs
    exact ⟨[], ⟨none, 0, rfl, Nat.le_refl _, by unfold maxLen; omega, fun _ => rfl, by simp, by simp⟩, by simp⟩
  · simp at hcs
    subst hcs
    rw [hx] at hds
    have hw := sized_slice hsz (j := j) (t := 34) (e := 5) hts hds Tryd.underlying34
    rw [show Tryd.prog.bytesOf 5 = 1 from by kernel_rfl] at hw
    simp only [lits, List.length_map, List.length_take, List.length_drop, reachBytes] at hw
    simp only [if_true] at hz
    obtain ⟨l, hll, hb⟩ := bsl_of_row (.inr ⟨_, rfl, hl, hm, hz, hcell, hwz⟩)
    exact ⟨l, hb, by omega⟩

theorem open_frame {H : Type} {enc : TypeId × Value → H} {W : World} {base : Nat} {v : Value} {d : DataW H} {p : List MemPlace} {ts : List TypeId} {ds : List (DataW H)} (j : Nat) (hts : ts[j]? = some 48) (hds : ds[j]? = some d)
    (hsz : (DataW.weightsEach Tryd.prog ts ds).all (· ≤ reachBytes) = true) (hok : Value.okWide Tryd.prog W .any base 48 v) (h1 : DataW.Trod enc Tryd.prog W 0 (fun _ => true) true 48 v d p) :
    ∃ (k : Int) (a b c e : Nat) (x : Value) (l : List Nat), v = frV k a b c e x ∧ BSl W x l ∧ l.length ≤ 140737488351232 ∧ (-9223372036854775808 ≤ k ∧ k ≤ 9223372036854775807) ∧ a < 4294967296 ∧ b < 4294967296 ∧ c < 4294967296 ∧ e < 4294967296 := by
  obtain ⟨cs, rfl, hcs⟩ := okWide_struct Tryd.underlying48 hok
  rw [cellsFrame] at hcs
  obtain ⟨fuel, hf⟩ := h1
  obtain ⟨l⟩ := cs
  match l, hcs with
  | [v0, v1, v2, v3, v4, v5], _ =>
    obtain ⟨xs, k, hk, hxy, _, hxl, hfd⟩ := DataW.trod_struct Tryd.underlying48 hf
    match xs, hxl with
    | [y0, y1, y2, y3, y4, y5], _ =>
      have g0 := hfd 0 _ rfl
      have g1 := hfd 1 _ rfl
      have g2 := hfd 2 _ rfl
      have g3 := hfd 3 _ rfl
      have g4 := hfd 4 _ rfl
      have g5 := hfd 5 _ rfl
      simp [cellsI, cellsV, cellsB, Value.cells] at g0 g1 g2 g3 g4 g5
      obtain ⟨a0, e0, _, f0⟩ := DataW.trod_int Tryd.underlying3 g0
      obtain ⟨a1, e1, _, f1⟩ := DataW.trod_int Tryd.underlying29 g1
      obtain ⟨a2, e2, _, f2⟩ := DataW.trod_int Tryd.underlying29 g2
      obtain ⟨a3, e3, _, f3⟩ := DataW.trod_int Tryd.underlying29 g3
      obtain ⟨a4, e4, _, f4⟩ := DataW.trod_int Tryd.underlying29 g4
      simp at e0 e1 e2 e3 e4
      subst e0 e1 e2 e3 e4
      have f0 := bounds_i64 f0
      have f1 := bounds_u32 f1
      have f2 := bounds_u32 f2
      have f3 := bounds_u32 f3
      have f4 := bounds_u32 f4
      simp only [Prod.mk.injEq] at hxy
      have hin := sized_struct hsz (j := j) hts (by rw [hds, hxy.1]) Tryd.underlying48
      obtain ⟨q, hq, hql⟩ := open_field 5 rfl rfl hin g5
      refine ⟨a0, a1.toNat, a2.toNat, a3.toNat, a4.toNat, v5, q, ?_, hq, hql, f0, by omega, by omega, by omega, by omega⟩
      unfold frV
      rw [Int.toNat_of_nonneg f1.1, Int.toNat_of_nonneg f2.1, Int.toNat_of_nonneg f3.1, Int.toNat_of_nonneg f4.1]
theorem again_frame {H : Type} {enc : TypeId × Value → H} {W W' : World} {v : Value} {d : DataW H} {p : List MemPlace} (h1 : DataW.Trod enc Tryd.prog W 0 (fun _ => true) true 48 v d p) (bel : Below W.heap.size W W') :
    DataW.Trod enc Tryd.prog W' 0 (fun b => decide (b < W.heap.size)) true 48 v d p := Below.trod laidOut (by kernel_rfl) (of_decide_eq_true (by kernel_rfl)) h1 bel (trod_place_lt h1)
end Go.Proofs.YtedhohamdbplhaaDoor
namespace Go.Proofs.YtedhohamdbplhaaDoor
open Go.ChangeShapes Go.WideShapes Go.ChangeAt Go.RowKit
set_option linter.unusedVariables false
set_option linter.unusedSimpArgs false
set_option maxRecDepth 20000

theorem cellsU64 : Tryd.prog.cellsOf 30 = 1 := by kernel_rfl
theorem cellsRec : Tryd.prog.cellsOf 102 = 3 := by kernel_rfl
theorem cellsBtab : Tryd.prog.cellsOf 103 = 54 := by kernel_rfl
theorem gB : Tryd.prog.globalNamed "replica/wire.bounds" = some 0 := by kernel_rfl
theorem gBty : (Tryd.prog.globals[0]?).map (·.type) = some 103 := by kernel_rfl
def recD {H : Type} (z : Nat × Nat × Nat) : DataW H := .agg [.lit (.int .i64 (z.1 : Int)), .lit (.int .u64 (z.2.1 : Int)), .lit (.int .u64 (z.2.2 : Int))]
theorem laid_bounds : (Rows.laid_replica_wire_bounds : DataW Unit) = .agg (bndL.map recD) := rfl
theorem rec_cells {H : Type} {enc : TypeId × Value → H} {W : World} {sp : Nat → Bool} {hh : Bool} {n base : Nat} {v0 v1 v2 : Value} {y : DataW H × List MemPlace} (h : DataW.trod enc Tryd.prog W base sp hh n 102 [v0, v1, v2] = some y) : ∃ a b c : Int, v0 = .int .i64 a ∧ v1 = .int .u64 b ∧ v2 = .int .u64 c ∧ y.1 = .agg [.lit (.int .i64 a), .lit (.int .u64 b), .lit (.int .u64 c)] := by
  obtain ⟨xs2, k2, hk2, hxy2, _, hxl2, hfd2⟩ := DataW.trod_struct Tryd.underlying102 h
  match xs2, hxl2 with
  | [u0, u1, u2], _ =>
    have m0 := hfd2 0 _ rfl
    have m1 := hfd2 1 _ rfl
    have m2 := hfd2 2 _ rfl
    simp [cellsI, cellsU64] at m0 m1 m2
    obtain ⟨b0, p0, q0, _⟩ := DataW.trod_int Tryd.underlying3 m0
    obtain ⟨b1, p1, q1, _⟩ := DataW.trod_int Tryd.underlying30 m1
    obtain ⟨b2, p2, q2, _⟩ := DataW.trod_int Tryd.underlying30 m2
    simp at p0 p1 p2
    subst q0 q1 q2
    exact ⟨b0, b1, b2, p0, p1, p2, by rw [hxy2]; rfl⟩
theorem cells_of_recs {H : Type} {enc : TypeId × Value → H} {w : World} {base : Nat} {sp : Nat → Bool} {held : Bool} {fuel : Nat} {cs : List Value} {zs : List (Nat × Nat × Nat)} {p : List MemPlace} (hz : zs.length = 18)
    (h : DataW.trod enc Tryd.prog w base sp held fuel 103 cs = some (.agg (zs.map recD), p)) : ∀ i, i < 18 → cs[i * 3]? = some (.int .i64 ((zs.getD i (0, 0, 0)).1 : Nat)) ∧ cs[i * 3 + 1]? = some (.int .u64 ((zs.getD i (0, 0, 0)).2.1 : Nat)) ∧ cs[i * 3 + 2]? = some (.int .u64 ((zs.getD i (0, 0, 0)).2.2 : Nat)) := by
  cases fuel with
  | zero => simp [DataW.trod] at h
  | succ fuel =>
    simp only [DataW.trod, Tryd.underlying103, cellsRec, cellsBtab] at h
    split at h
    · rename_i hl
      have hlen : cs.length = 54 := by simpa using hl
      obtain ⟨xs, hm, hx⟩ := Option.map_eq_some_iff.1 h
      have hxs : xs.map (·.1) = zs.map recD := by
        have := congrArg Prod.fst hx
        simpa using this
      intro i hi
      obtain ⟨b, hb, hf⟩ := Lib.mapM_at hm i i (by simp [hi])
      have h3 : ((cs.drop (i * 3)).take 3).length = 3 := by simp; omega
      obtain ⟨v0, v1, v2, hv⟩ : ∃ v0 v1 v2, (cs.drop (i * 3)).take 3 = [v0, v1, v2] := by
        match (cs.drop (i * 3)).take 3, h3 with
        | [v0, v1, v2], _ => exact ⟨v0, v1, v2, rfl⟩
      rw [hv] at hf
      obtain ⟨a, b1, c, rfl, rfl, rfl, hy⟩ := rec_cells hf
      have h2 : (xs.map (·.1))[i]? = some b.1 := by simp [hb]
      rw [hxs, hy] at h2
      have hzi : zs[i]? = some (zs.getD i (0, 0, 0)) := by rw [List.getD_eq_getElem?_getD, List.getElem?_eq_getElem (by omega)]; rfl
      rw [List.getElem?_map, hzi] at h2
      simp [recD] at h2
      obtain ⟨e1, e2, e3⟩ := h2
      have g : ∀ j, j < 3 → cs[i * 3 + j]? = [Value.int .i64 a, .int .u64 b1, .int .u64 c][j]? := fun j hj => by
        rw [← hv, List.getElem?_take, if_pos hj, List.getElem?_drop]
      have g0 := g 0 (by decide)
      have g1 := g 1 (by decide)
      have g2 := g 2 (by decide)
      simp at g0 g1 g2
      exact ⟨by rw [g0, ← e1]; simp, by rw [g1, ← e2]; simp, by rw [g2, ← e3]; simp⟩
    · cases h
def listed : List (String × DataW Unit) := [("replica/wire.bounds", Rows.laid_replica_wire_bounds)]
theorem stabs_of_laid {W : World} (h : laidMetH Tryd.prog listed W) : BTab W := by
  have h' : laidMet Tryd.prog [("replica/wire.bounds", (.agg (bndL.map recD) : DataW Unit))] W := h
  obtain ⟨ps, ⟨g', t', cs, fuel, p, q, hg', ht', hvar, hd, _⟩, _⟩ := h'
  obtain rfl := Option.some.inj (gB.symm.trans hg')
  obtain rfl := Option.some.inj (gBty.symm.trans ht')
  have hc := cells_of_recs rfl hd
  intro n hn
  obtain ⟨c0, c1, c2⟩ := hc n hn
  have k := fun j => World.var?_cell gB hvar j
  exact ⟨by rw [k, List.getElem?_toArray]; exact c0, by rw [k, List.getElem?_toArray]; exact c1, by rw [k, List.getElem?_toArray]; exact c2⟩
def relay (cs : List Value) : Obj → Obj
  | .cells _ t fr => .cells cs.toArray t fr
  | o => o
def laidIn (w : World) : World := { w with heap := w.heap.modify 0 (relay (bndL.flatMap fun z => [.int .i64 (z.1 : Int), .int .u64 (z.2.1 : Int), .int .u64 (z.2.2 : Int)])) }
end Go.Proofs.YtedhohamdbplhaaDoor
namespace Go.Proofs.YtedhohamdbplhaaDoor
open Go.ChangeShapes Go.WideShapes Go.ChangeAt Go.RowKit
open Num
set_option linter.unusedVariables false
set_option linter.unusedSimpArgs false
set_option maxRecDepth 20000

theorem cellsPk : Tryd.prog.cellsOf 36 = 43 := by kernel_rfl
theorem cellsG : Tryd.prog.cellsOf 32 = 4 := by kernel_rfl
theorem cellsS : Tryd.prog.cellsOf 33 = 32 := by kernel_rfl
theorem cellsU8 : Tryd.prog.cellsOf 5 = 1 := by kernel_rfl
theorem cellsUk : Tryd.prog.cellsOf 30 = 1 := by kernel_rfl
def natOf : Value → Nat
  | .int _ n => n.toNat
  | _ => 0
theorem open_sum {H : Type} {enc : TypeId × Value → H} {W : World} {n : Nat} {cs : List Value} {y : DataW H × List MemPlace} (h : DataW.trod enc Tryd.prog W 0 (fun _ => true) true n 33 cs = some y) :
    ∃ s : List Nat, cs = s.map (fun (x : Nat) => Value.int .u8 (x : Int)) ∧ s.length = 32 ∧ ∀ x ∈ s, x < 256 := by
  obtain ⟨xs, m, hm, hxy, hcl, hxl, hfd⟩ := DataW.trod_array Tryd.underlying33 h
  rw [cellsS] at hcl
  have key : ∀ i, (hi : i < cs.length) → ∃ k : Nat, k < 256 ∧ cs[i] = .int .u8 (k : Int) := by
    intro i hi
    have g := hfd i (by omega)
    rw [cellsU8, Nat.mul_one] at g
    rw [List.getElem?_eq_getElem (by omega)] at g
    obtain ⟨a, e, _, f⟩ := DataW.trod_int Tryd.underlying5 g
    have f := bounds_u8 f
    rw [List.drop_eq_getElem_cons hi, List.take_succ_cons, List.take_zero] at e
    simp only [List.cons.injEq, and_true] at e
    exact ⟨a.toNat, by omega, by rw [e, Int.toNat_of_nonneg f.1]⟩
  refine ⟨cs.map natOf, ?_, by simp [hcl], fun x hx => ?_⟩
  · rw [List.map_map]
    refine List.ext_getElem (by simp) fun i h1 h2 => ?_
    obtain ⟨k, hk, e⟩ := key i h1
    simp [e, natOf]
  · obtain ⟨v, hv, rfl⟩ := List.mem_map.1 hx
    obtain ⟨i, hi, rfl⟩ := List.getElem_of_mem hv
    obtain ⟨k, hk, e⟩ := key i hi
    rw [e]; simpa [natOf] using hk
set_option maxHeartbeats 1000000 in
/-- a packet that came in -/
theorem open_packet {H : Type} {enc : TypeId × Value → H} {W : World} {base : Nat} {v : Value} {d : DataW H} {p : List MemPlace} {ts : List TypeId} {ds : List (DataW H)} (j : Nat) (hts : ts[j]? = some 36) (hds : ds[j]? = some d)
    (hsz : (DataW.weightsEach Tryd.prog ts ds).all (· ≤ reachBytes) = true) (hok : Value.okWide Tryd.prog W .any base 36 v) (h1 : DataW.Trod enc Tryd.prog W 0 (fun _ => true) true 36 v d p) :
    ∃ (c : Int) (q : PV) (x : Value), v = pkV c q x ∧ q.Ok ∧ BSl W x q.dl ∧ q.dl.length ≤ 140737488351232 ∧ (-9223372036854775808 ≤ c ∧ c ≤ 9223372036854775807) := by
  obtain ⟨cs, rfl, hcs⟩ := okWide_struct Tryd.underlying36 hok
  rw [cellsPk] at hcs
  obtain ⟨fuel, hf⟩ := h1
  obtain ⟨l⟩ := cs
  match l, hcs with
  | v0 :: v1 :: v2 :: v3 :: v4 :: v5 :: v6 :: v7 :: v8 :: v9 :: r, hr =>
    have hrl : r.length = 33 := by simp at hr; omega
    obtain ⟨xs, k, hk, hxy, _, hxl, hfd⟩ := DataW.trod_struct Tryd.underlying36 hf
    match xs, hxl with
    | [y0, y1, y2, y3, y4, y5, y6, y7, y8], _ =>
      have g0 := hfd 0 _ rfl
      have g1 := hfd 1 _ rfl
      have g2 := hfd 2 _ rfl
      have g3 := hfd 3 _ rfl
      have g4 := hfd 4 _ rfl
      have g5 := hfd 5 _ rfl
      have g6 := hfd 6 _ rfl
      have g7 := hfd 7 _ rfl
      have g8 := hfd 8 _ rfl
      simp [cellsI, cellsV, cellsB, cellsG, cellsS, Value.cells] at g0 g1 g2 g3 g4 g5 g6 g7 g8
      obtain ⟨xs2, k2, hk2, hxy2, _, hxl2, hfd2⟩ := DataW.trod_struct Tryd.underlying32 g6
      match xs2, hxl2 with
      | [u0, u1, u2, u3], _ =>
        have m0 := hfd2 0 _ rfl
        have m1 := hfd2 1 _ rfl
        have m2 := hfd2 2 _ rfl
        have m3 := hfd2 3 _ rfl
        simp [cellsUk] at m0 m1 m2 m3
        obtain ⟨a0, e0, _, f0⟩ := DataW.trod_int Tryd.underlying3 g0
        obtain ⟨a1, e1, _, f1⟩ := DataW.trod_int Tryd.underlying29 g1
        obtain ⟨a2, e2, _, f2⟩ := DataW.trod_int Tryd.underlying29 g2
        obtain ⟨a3, e3, _, f3⟩ := DataW.trod_int Tryd.underlying29 g3
        obtain ⟨a4, e4, _, f4⟩ := DataW.trod_int Tryd.underlying29 g4
        obtain ⟨a5, e5, _, f5⟩ := DataW.trod_int Tryd.underlying29 g5
        obtain ⟨b0, p0, _, q0⟩ := DataW.trod_int Tryd.underlying30 m0
        obtain ⟨b1, p1, _, q1⟩ := DataW.trod_int Tryd.underlying30 m1
        obtain ⟨b2, p2, _, q2⟩ := DataW.trod_int Tryd.underlying30 m2
        obtain ⟨b3, p3, _, q3⟩ := DataW.trod_int Tryd.underlying30 m3
        simp at e0 e1 e2 e3 e4 e5 p0 p1 p2 p3
        subst e0 e1 e2 e3 e4 e5 p0 p1 p2 p3
        have f0 := bounds_i64 f0
        have f1 := bounds_u32 f1
        have f2 := bounds_u32 f2
        have f3 := bounds_u32 f3
        have f4 := bounds_u32 f4
        have f5 := bounds_u32 f5
        have q0 := bounds_u64 q0
        have q1 := bounds_u64 q1
        have q2 := bounds_u64 q2
        have q3 := bounds_u64 q3
        obtain ⟨s, hs, hsl, hsb⟩ := open_sum g7
        obtain ⟨x, hx⟩ : ∃ x, r.drop 32 = [x] := by
          match hh : r.drop 32, (show (r.drop 32).length = 1 by simp [hrl]) with
          | [x], _ => exact ⟨x, rfl⟩
        have hrr : r = s.map (fun (x : Nat) => Value.int .u8 (x : Int)) ++ [x] := by rw [← hs, ← hx, List.take_append_drop]
        rw [show List.take 1 (r.drop 32) = [x] by rw [hx]; rfl] at g8
        simp only [Prod.mk.injEq] at hxy
        have hin := sized_struct hsz (j := j) hts (by rw [hds, hxy.1]) Tryd.underlying36
        obtain ⟨q, hq, hql⟩ := open_field 8 rfl rfl hin g8
        refine ⟨a0, ⟨a1.toNat, a2.toNat, a3.toNat, a4.toNat, a5.toNat, b0.toNat, b1.toNat, b2.toNat, b3.toNat, s, q⟩, x, ?_, ⟨by simp only; omega, by simp only; omega, by simp only; omega, by simp only; omega, by simp only; omega, by simp only; omega, by simp only; omega, by simp only; omega, by simp only; omega, hsl, hsb⟩, hq, hql, f0⟩
        unfold pkV PV.row
        simp only
        rw [Int.toNat_of_nonneg f1.1, Int.toNat_of_nonneg f2.1, Int.toNat_of_nonneg f3.1, Int.toNat_of_nonneg f4.1, Int.toNat_of_nonneg f5.1, Int.toNat_of_nonneg q0.1, Int.toNat_of_nonneg q1.1, Int.toNat_of_nonneg q2.1, Int.toNat_of_nonneg q3.1, hrr]
        rfl
theorem again_packet {H : Type} {enc : TypeId × Value → H} {W W' : World} {v : Value} {d : DataW H} {p : List MemPlace} (h1 : DataW.Trod enc Tryd.prog W 0 (fun _ => true) true 36 v d p) (bel : Below W.heap.size W W') :
    DataW.Trod enc Tryd.prog W' 0 (fun b => decide (b < W.heap.size)) true 36 v d p := Below.trod laidOut (by kernel_rfl) (of_decide_eq_true (by kernel_rfl)) h1 bel (trod_place_lt h1)
end Go.Proofs.YtedhohamdbplhaaDoor
namespace Go.Proofs.YtedhohamdbplhaaDoor
open Go.ChangeShapes Go.WideShapes Go.ChangeAt Go.RowKit
open Num
set_option linter.unusedVariables false
set_option linter.unusedSimpArgs false
set_option maxRecDepth 20000

theorem bulk_pos {H : Type} (d : DataW H) : 1 ≤ Rows.uptoBulk d := by
  cases d with
  | lit l => cases l <;> simp [Rows.uptoBulk]
  | _ => simp [Rows.uptoBulk]
theorem bulk_len {H : Type} (l : List (DataW H)) : l.length ≤ Rows.uptoBulkAll l := by
  induction l with
  | nil => exact Nat.zero_le _
  | cons x r ih => have := bulk_pos x; rw [Rows.uptoBulkAll, List.length_cons]; omega
theorem weights_all {H : Type} {P : Program} {e : TypeId} : ∀ {l : List (DataW H)} {d : DataW H}, d ∈ l → ∀ n ∈ d.weights P e, n ∈ DataW.weightsAll P e l
  | [], _, h => by cases h
  | x :: r, d, h => fun n hn => by
    simp only [DataW.weightsAll, List.mem_append]
    rcases List.mem_cons.1 h with rfl | h
    · exact .inl hn
    · exact .inr (weights_all h n hn)
theorem one_weight {H : Type} {P : Program} {t : TypeId} {d : DataW H} (hw : ∀ k ∈ d.weights P t, k ≤ reachBytes) : (DataW.weightsEach P [t] [d]).all (· ≤ reachBytes) = true :=
  List.all_eq_true.2 fun n hn => by
    have : n ∈ d.weights P t := by simpa [DataW.weightsEach] using hn
    simpa using hw n this
set_option maxHeartbeats 1000000 in
/-- a packet's cells that came in -/
theorem packet_row {H : Type} {enc : TypeId × Value → H} {W : World} {n : Nat} {l : List Value} {y : DataW H × List MemPlace} (hr0 : l.length = 43) (hf : DataW.trod enc Tryd.prog W 0 (fun _ => true) true n 36 l = some y) (hw : ∀ k ∈ y.1.weights Tryd.prog 36, k ≤ reachBytes) :
    ∃ (c : Int) (q : PV) (x : Value), l = .int .i64 c :: q.row x ∧ q.Ok ∧ BSl W x q.dl ∧ q.dl.length ≤ 140737488351232 := by
  match l, hr0 with
  | v0 :: v1 :: v2 :: v3 :: v4 :: v5 :: v6 :: v7 :: v8 :: v9 :: r, hr =>
    have hrl : r.length = 33 := by simp at hr; omega
    obtain ⟨xs, k, hk, hxy, _, hxl, hfd⟩ := DataW.trod_struct Tryd.underlying36 hf
    match xs, hxl with
    | [z0, z1, z2, z3, z4, z5, z6, z7, z8], _ =>
      have g0 := hfd 0 _ rfl
      have g1 := hfd 1 _ rfl
      have g2 := hfd 2 _ rfl
      have g3 := hfd 3 _ rfl
      have g4 := hfd 4 _ rfl
      have g5 := hfd 5 _ rfl
      have g6 := hfd 6 _ rfl
      have g7 := hfd 7 _ rfl
      have g8 := hfd 8 _ rfl
      simp [cellsI, cellsV, cellsB, cellsG, cellsS] at g0 g1 g2 g3 g4 g5 g6 g7 g8
      obtain ⟨xs2, k2, hk2, hxy2, _, hxl2, hfd2⟩ := DataW.trod_struct Tryd.underlying32 g6
      match xs2, hxl2 with
      | [u0, u1, u2, u3], _ =>
        have m0 := hfd2 0 _ rfl
        have m1 := hfd2 1 _ rfl
        have m2 := hfd2 2 _ rfl
        have m3 := hfd2 3 _ rfl
        simp [cellsUk] at m0 m1 m2 m3
        obtain ⟨a0, e0, _, f0⟩ := DataW.trod_int Tryd.underlying3 g0
        obtain ⟨a1, e1, _, f1⟩ := DataW.trod_int Tryd.underlying29 g1
        obtain ⟨a2, e2, _, f2⟩ := DataW.trod_int Tryd.underlying29 g2
        obtain ⟨a3, e3, _, f3⟩ := DataW.trod_int Tryd.underlying29 g3
        obtain ⟨a4, e4, _, f4⟩ := DataW.trod_int Tryd.underlying29 g4
        obtain ⟨a5, e5, _, f5⟩ := DataW.trod_int Tryd.underlying29 g5
        obtain ⟨b0, p0, _, q0⟩ := DataW.trod_int Tryd.underlying30 m0
        obtain ⟨b1, p1, _, q1⟩ := DataW.trod_int Tryd.underlying30 m1
        obtain ⟨b2, p2, _, q2⟩ := DataW.trod_int Tryd.underlying30 m2
        obtain ⟨b3, p3, _, q3⟩ := DataW.trod_int Tryd.underlying30 m3
        simp at e0 e1 e2 e3 e4 e5 p0 p1 p2 p3
        subst e0 e1 e2 e3 e4 e5 p0 p1 p2 p3
        have f0 := bounds_i64 f0
        have f1 := bounds_u32 f1
        have f2 := bounds_u32 f2
        have f3 := bounds_u32 f3
        have f4 := bounds_u32 f4
        have f5 := bounds_u32 f5
        have q0 := bounds_u64 q0
        have q1 := bounds_u64 q1
        have q2 := bounds_u64 q2
        have q3 := bounds_u64 q3
        obtain ⟨s, hs, hsl, hsb⟩ := open_sum g7
        obtain ⟨x, hx⟩ : ∃ x, r.drop 32 = [x] := by
          match hh : r.drop 32, (show (r.drop 32).length = 1 by simp [hrl]) with
          | [x], _ => exact ⟨x, rfl⟩
        have hrr : r = s.map (fun (x : Nat) => Value.int .u8 (x : Int)) ++ [x] := by rw [← hs, ← hx, List.take_append_drop]
        rw [show List.take 1 (r.drop 32) = [x] by rw [hx]; rfl] at g8
        have hin := sized_struct (ts := [36]) (ds := [y.1]) (j := 0) (one_weight hw) rfl (by rw [congrArg Prod.fst hxy]; rfl) Tryd.underlying36
        obtain ⟨q, hq, hql⟩ := open_field 8 rfl rfl hin g8
        refine ⟨a0, ⟨a1.toNat, a2.toNat, a3.toNat, a4.toNat, a5.toNat, b0.toNat, b1.toNat, b2.toNat, b3.toNat, s, q⟩, x, ?_, ⟨by simp only; omega, by simp only; omega, by simp only; omega, by simp only; omega, by simp only; omega, by simp only; omega, by simp only; omega, by simp only; omega, by simp only; omega, hsl, hsb⟩, hq, hql⟩
        unfold PV.row
        simp only
        rw [Int.toNat_of_nonneg f1.1, Int.toNat_of_nonneg f2.1, Int.toNat_of_nonneg f3.1, Int.toNat_of_nonneg f4.1, Int.toNat_of_nonneg f5.1, Int.toNat_of_nonneg q0.1, Int.toNat_of_nonneg q1.1, Int.toNat_of_nonneg q2.1, Int.toNat_of_nonneg q3.1, hrr]
        rfl
/-- a frame's cells that came in -/
theorem frame_row {H : Type} {enc : TypeId × Value → H} {W : World} {n : Nat} {l : List Value} {y : DataW H × List MemPlace} (hr0 : l.length = 6) (hf : DataW.trod enc Tryd.prog W 0 (fun _ => true) true n 48 l = some y) (hw : ∀ k ∈ y.1.weights Tryd.prog 48, k ≤ reachBytes) :
    ∃ s : FrI, l = s.row ∧ BSl W s.v s.l ∧ s.l.length ≤ 140737488351232 ∧ (-9223372036854775808 ≤ s.k ∧ s.k ≤ 9223372036854775807) ∧ s.a < 4294967296 ∧ s.b < 4294967296 ∧ s.c < 4294967296 ∧ s.d < 4294967296 := by
  match l, hr0 with
  | [v0, v1, v2, v3, v4, v5], _ =>
    obtain ⟨xs, k, hk, hxy, _, hxl, hfd⟩ := DataW.trod_struct Tryd.underlying48 hf
    match xs, hxl with
    | [z0, z1, z2, z3, z4, z5], _ =>
      have g0 := hfd 0 _ rfl
      have g1 := hfd 1 _ rfl
      have g2 := hfd 2 _ rfl
      have g3 := hfd 3 _ rfl
      have g4 := hfd 4 _ rfl
      have g5 := hfd 5 _ rfl
      simp [cellsI, cellsV, cellsB] at g0 g1 g2 g3 g4 g5
      obtain ⟨a0, e0, _, f0⟩ := DataW.trod_int Tryd.underlying3 g0
      obtain ⟨a1, e1, _, f1⟩ := DataW.trod_int Tryd.underlying29 g1
      obtain ⟨a2, e2, _, f2⟩ := DataW.trod_int Tryd.underlying29 g2
      obtain ⟨a3, e3, _, f3⟩ := DataW.trod_int Tryd.underlying29 g3
      obtain ⟨a4, e4, _, f4⟩ := DataW.trod_int Tryd.underlying29 g4
      simp at e0 e1 e2 e3 e4
      subst e0 e1 e2 e3 e4
      have f0 := bounds_i64 f0
      have f1 := bounds_u32 f1
      have f2 := bounds_u32 f2
      have f3 := bounds_u32 f3
      have f4 := bounds_u32 f4
      have hin := sized_struct (ts := [48]) (ds := [y.1]) (j := 0) (one_weight hw) rfl (by rw [congrArg Prod.fst hxy]; rfl) Tryd.underlying48
      obtain ⟨q, hq, hql⟩ := open_field 5 rfl rfl hin g5
      refine ⟨⟨a0, a1.toNat, a2.toNat, a3.toNat, a4.toNat, v5, q⟩, ?_, hq, hql, f0, by simp only; omega, by simp only; omega, by simp only; omega, by simp only; omega⟩
      unfold FrI.row frL
      simp only
      rw [Int.toNat_of_nonneg f1.1, Int.toNat_of_nonneg f2.1, Int.toNat_of_nonneg f3.1, Int.toNat_of_nonneg f4.1]
theorem cellsPacket : Tryd.prog.cellsOf 36 = 43 := cellsPk
theorem open_Packets {H : Type} {enc : TypeId × Value → H} {W : World} {base : Nat} {v : Value} {d : DataW H} {p : List MemPlace} {ts : List TypeId} {ds : List (DataW H)} (j : Nat) (hts : ts[j]? = some 22) (hds : ds[j]? = some d)
    (hsz : (DataW.weightsEach Tryd.prog ts ds).all (· ≤ reachBytes) = true)
    (hok : Value.okWide Tryd.prog W .any base 22 v) (h1 : DataW.Trod enc Tryd.prog W 0 (fun _ => true) true 22 v d p) : ∃ (a : Option Addr) (cap : Nat) (L : List (Int × PV × Value)), v = .slice a L.length cap ∧ PkAt W a cap L ∧ L.length ≤ Rows.uptoBulk d := by
  obtain ⟨a1, len1, cap1, rfl⟩ := okWide_slice Tryd.underlying22 hok
  obtain ⟨fuel, hf⟩ := h1
  rcases Go.Deep.open_slice Tryd.underlying22 hf with ⟨hcs, _⟩ | ⟨a, len, cap, m, n, D, Pl, hcs, _, hl, hm, hmm, hx, hel⟩
  · simp [Value.cells] at hcs
    obtain ⟨rfl, rfl, rfl⟩ := hcs
    exact ⟨none, 0, [], rfl, ⟨Nat.le_refl _, by unfold maxLen; omega, by simp, by simp⟩, Nat.zero_le _⟩
  · simp [Value.cells] at hcs
    obtain ⟨rfl, rfl, rfl⟩ := hcs
    simp only [if_true] at hmm
    subst hmm
    have hwD : ∀ i, i < len1 → ∀ k ∈ (D i).weights Tryd.prog 36, k ≤ reachBytes := fun i hi k hk => by
      have h0 := List.all_eq_true.1 hsz k (DataW.weights_mem_each hts hds k (by
        simp only [Prod.mk.injEq] at hx
        rw [hx.1]
        simp only [DataW.weights]
        rw [Tryd.underlying22]
        refine List.mem_cons_of_mem _ (List.mem_append_left _ (weights_all (d := D i) ?_ k hk))
        exact List.mem_map.2 ⟨i, List.mem_range.2 hi, rfl⟩))
      simpa using h0
    have each : ∀ i, i < len1 → ∃ s : Int × PV × Value, (∀ (j : Nat) (u : Value), (Value.int .i64 s.1 :: s.2.1.row s.2.2)[j]? = some u → W.cell? (a.add (i * 43 + j)) = some u) ∧ s.2.1.Ok ∧ BSl W s.2.2 s.2.1.dl ∧ s.2.1.dl.length ≤ 140737488351232 := by
      intro i hi
      obtain ⟨cs', h1, h2⟩ := hel i (by omega)
      rw [cellsPacket] at h1
      obtain ⟨_, hlen, hcell⟩ := World.cells?_some h1
      obtain ⟨c, q, x, hrow, hrest⟩ := packet_row hlen h2 (fun k hk => hwD i hi k hk)
      refine ⟨⟨c, q, x⟩, fun j u hu => ?_, hrest⟩
      have hj : j < 43 := by
        have := (List.getElem?_eq_some_iff.1 hu).1
        rw [← hrow, hlen] at this
        exact this
      have e0 := hcell j hj
      rw [Go.Deep.add_add] at e0
      rw [← hrow] at hu
      exact e0.trans hu
    haveI : Inhabited (Int × PV × Value) := ⟨(0, PV.zero, .slice none 0 0)⟩
    obtain ⟨f, hfa⟩ := Go.Deep.choose_lt each
    have hd : Rows.uptoBulkAll ((List.range len1).map D) + 1 ≤ Rows.uptoBulk d := by
      simp only [Prod.mk.injEq] at hx
      rw [hx.1, Rows.uptoBulk]; omega
    have hlen1 := bulk_len ((List.range len1).map D)
    simp only [List.length_map, List.length_range] at hlen1
    refine ⟨some a, m, (List.range len1).map f, by simp, ⟨by simpa using hl, hm, fun hpos => ?_, fun s hs => ?_⟩, by simp; omega⟩
    · simp only [List.length_map, List.length_range] at hpos
      obtain ⟨b, off, spot⟩ := a
      obtain ⟨u0, hz⟩ : ∃ u, W.cell? ((⟨b, off, spot⟩ : Addr).add (0 * 43 + 0)) = some u := ⟨_, (hfa 0 hpos).1 0 _ rfl⟩
      have hspot : spot = none := by simpa [Addr.add] using World.cell?_spot hz
      subst hspot
      have hz2 : W.cell? ⟨b, off + 0, none⟩ = some u0 := by rw [← Addr.add_lit]; simpa using hz
      refine ⟨b, off, rfl, World.block_lt_of_cell? W _ hz2, fun i s hs j u hu => ?_⟩
      simp only [List.getElem?_map, Option.map_eq_some_iff] at hs
      obtain ⟨i', hi', rfl⟩ := hs
      obtain ⟨hi2, rfl⟩ := List.getElem?_eq_some_iff.1 hi'
      simp only [List.length_range] at hi2
      simp only [List.getElem_range] at hu
      rw [Nat.add_assoc, ← Addr.add_lit]
      exact (hfa i hi2).1 j u hu
    · obtain ⟨i, hi, rfl⟩ := List.mem_map.1 hs
      exact (hfa i (List.mem_range.1 hi)).2
theorem again_Packets {H : Type} {enc : TypeId × Value → H} {W W' : World} {v : Value} {d : DataW H} {p : List MemPlace} (h1 : DataW.Trod enc Tryd.prog W 0 (fun _ => true) true 22 v d p) (bel : Below W.heap.size W W') :
    DataW.Trod enc Tryd.prog W' 0 (fun b => decide (b < W.heap.size)) true 22 v d p := Below.trod laidOut (by kernel_rfl) (of_decide_eq_true (by kernel_rfl)) h1 bel (trod_place_lt h1)
theorem open_Frames {H : Type} {enc : TypeId × Value → H} {W : World} {base : Nat} {v : Value} {d : DataW H} {p : List MemPlace} {ts : List TypeId} {ds : List (DataW H)} (j : Nat) (hts : ts[j]? = some 23) (hds : ds[j]? = some d)
    (hsz : (DataW.weightsEach Tryd.prog ts ds).all (· ≤ reachBytes) = true)
    (hok : Value.okWide Tryd.prog W .any base 23 v) (h1 : DataW.Trod enc Tryd.prog W 0 (fun _ => true) true 23 v d p) : ∃ (a : Option Addr) (cap : Nat) (L : List (FrI)), v = .slice a L.length cap ∧ FrAt W a cap L ∧ L.length ≤ Rows.uptoBulk d := by
  obtain ⟨a1, len1, cap1, rfl⟩ := okWide_slice Tryd.underlying23 hok
  obtain ⟨fuel, hf⟩ := h1
  rcases Go.Deep.open_slice Tryd.underlying23 hf with ⟨hcs, _⟩ | ⟨a, len, cap, m, n, D, Pl, hcs, _, hl, hm, hmm, hx, hel⟩
  · simp [Value.cells] at hcs
    obtain ⟨rfl, rfl, rfl⟩ := hcs
    exact ⟨none, 0, [], rfl, ⟨Nat.le_refl _, by unfold maxLen; omega, by simp, by simp⟩, Nat.zero_le _⟩
  · simp [Value.cells] at hcs
    obtain ⟨rfl, rfl, rfl⟩ := hcs
    simp only [if_true] at hmm
    subst hmm
    have hwD : ∀ i, i < len1 → ∀ k ∈ (D i).weights Tryd.prog 48, k ≤ reachBytes := fun i hi k hk => by
      have h0 := List.all_eq_true.1 hsz k (DataW.weights_mem_each hts hds k (by
        simp only [Prod.mk.injEq] at hx
        rw [hx.1]
        simp only [DataW.weights]
        rw [Tryd.underlying23]
        refine List.mem_cons_of_mem _ (List.mem_append_left _ (weights_all (d := D i) ?_ k hk))
        exact List.mem_map.2 ⟨i, List.mem_range.2 hi, rfl⟩))
      simpa using h0
    have each : ∀ i, i < len1 → ∃ s : FrI, (∀ (j : Nat) (u : Value), (s.row)[j]? = some u → W.cell? (a.add (i * 6 + j)) = some u) ∧ BSl W s.v s.l ∧ s.l.length ≤ 140737488351232 ∧ (-9223372036854775808 ≤ s.k ∧ s.k ≤ 9223372036854775807) ∧ s.a < 4294967296 ∧ s.b < 4294967296 ∧ s.c < 4294967296 ∧ s.d < 4294967296 := by
      intro i hi
      obtain ⟨cs', h1, h2⟩ := hel i (by omega)
      rw [cellsFrame] at h1
      obtain ⟨_, hlen, hcell⟩ := World.cells?_some h1
      obtain ⟨s, hrow, hrest⟩ := frame_row hlen h2 (fun k hk => hwD i hi k hk)
      refine ⟨s, fun j u hu => ?_, hrest⟩
      have hj : j < 6 := by
        have := (List.getElem?_eq_some_iff.1 hu).1
        rw [← hrow, hlen] at this
        exact this
      have e0 := hcell j hj
      rw [Go.Deep.add_add] at e0
      rw [← hrow] at hu
      exact e0.trans hu
    haveI : Inhabited FrI := ⟨⟨0, 0, 0, 0, 0, .slice none 0 0, []⟩⟩
    obtain ⟨f, hfa⟩ := Go.Deep.choose_lt each
    have hd : Rows.uptoBulkAll ((List.range len1).map D) + 1 ≤ Rows.uptoBulk d := by
      simp only [Prod.mk.injEq] at hx
      rw [hx.1, Rows.uptoBulk]; omega
    have hlen1 := bulk_len ((List.range len1).map D)
    simp only [List.length_map, List.length_range] at hlen1
    refine ⟨some a, m, (List.range len1).map f, by simp, ⟨by simpa using hl, hm, fun hpos => ?_, fun s hs => ?_⟩, by simp; omega⟩
    · simp only [List.length_map, List.length_range] at hpos
      obtain ⟨b, off, spot⟩ := a
      obtain ⟨u0, hz⟩ : ∃ u, W.cell? ((⟨b, off, spot⟩ : Addr).add (0 * 6 + 0)) = some u := ⟨_, (hfa 0 hpos).1 0 _ rfl⟩
      have hspot : spot = none := by simpa [Addr.add] using World.cell?_spot hz
      subst hspot
      have hz2 : W.cell? ⟨b, off + 0, none⟩ = some u0 := by rw [← Addr.add_lit]; simpa using hz
      refine ⟨b, off, rfl, World.block_lt_of_cell? W _ hz2, fun i s hs j u hu => ?_⟩
      simp only [List.getElem?_map, Option.map_eq_some_iff] at hs
      obtain ⟨i', hi', rfl⟩ := hs
      obtain ⟨hi2, rfl⟩ := List.getElem?_eq_some_iff.1 hi'
      simp only [List.length_range] at hi2
      simp only [List.getElem_range] at hu
      rw [Nat.add_assoc, ← Addr.add_lit]
      exact (hfa i hi2).1 j u hu
    · obtain ⟨i, hi, rfl⟩ := List.mem_map.1 hs
      exact (hfa i (List.mem_range.1 hi)).2
theorem again_Frames {H : Type} {enc : TypeId × Value → H} {W W' : World} {v : Value} {d : DataW H} {p : List MemPlace} (h1 : DataW.Trod enc Tryd.prog W 0 (fun _ => true) true 23 v d p) (bel : Below W.heap.size W W') :
    DataW.Trod enc Tryd.prog W' 0 (fun b => decide (b < W.heap.size)) true 23 v d p := Below.trod laidOut (by kernel_rfl) (of_decide_eq_true (by kernel_rfl)) h1 bel (trod_place_lt h1)
end Go.Proofs.YtedhohamdbplhaaDoor
