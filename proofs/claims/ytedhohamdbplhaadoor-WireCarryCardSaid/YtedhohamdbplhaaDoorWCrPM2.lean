import Derived.Test.YtedhohamdbplhaaDoorWCrPM1
import Derived.Deep.DeepMust
import Derived.Test.YtedhohamdbplhaaDoorWCrPM0
import Derived.Test.YtedhohamdbplhaaDoorCards
import Derived.Test.YtedhohamdbplhaaDoorTie
import Derived.WalkKit
import Derived.ProofKit
import Derived.OpenShut
import Derived.ChangeOld
import Derived.SizedLaws
import Derived.ChangeSlices
import Derived.Deep.Slices
import Derived.ChangeSame
import Derived.Deep.DeepHandedRow
import Derived.Lib.LaidTab
import Derived.Test.YtedhohamdbplhaaDoorWLaid
namespace Go.Proofs.YtedhohamdbplhaaDoor
open Go.RowKit
set_option linter.unusedVariables false
set_option linter.unusedSimpArgs false
set_option maxRecDepth 20000

theorem row_put (c : Int) {p : PV} (hp : p.s.length = 32) (v v' : Value) : (.int .i64 c :: p.row v).toArray.setIfInBounds 42 v' = (.int .i64 c :: p.row v').toArray := by
  rw [List.setIfInBounds_toArray, List.set_cons_succ]
  congr 2
  unfold PV.row
  rw [List.set_append_right _ _ (by simp [hp])]
  simp [hp]
theorem zpk_row {w : World} {CS : Array Value} (g : Nat) (hg : w.heap[g]? = some (.cells zPk 36 (0, 0))) : (w.setRow g CS).heap[g]? = some (.cells CS 36 (0, 0)) := setRow_heap _ _ zPk _ 36 _ hg
set_option maxHeartbeats 2000000 in
/-- a packet with data of its own -/
theorem ownPacket_any (w : World) (c : Int) (p : PV) (v : Value) (hp : p.Ok) (h : BSl w v p.dl) (hl : p.dl.length ≤ 140737488351232) :
    Calls Tryd.prog 7 #[pkV c p v] w fun e w' => ∃ v', e = .returned (pkV c p v') ∧ BSl w' v' p.dl ∧ (∀ g, v'.ownBlock = some g → g < w'.heap.size) ∧ Below w.heap.size w w' := by
  obtain ⟨pa, cap, rfl, h1, h2, h3, h4, h5⟩ := id h
  have HPV : ∀ v, pkV c p v = .agg (.int .i64 c :: p.row v).toArray := fun _ => rfl
  have PC0 := hide (pc_of c hp.n (.slice pa p.dl.length cap) rfl)
  have HK : Hid (KM (w.alloc (.cells (.int .i64 c :: p.row (.slice pa p.dl.length cap)).toArray 36)) w.heap.size c p (.slice pa p.dl.length cap)) := hide ⟨Go.heap_alloc_new w _, hp⟩
  have b0 := (Below.refl w.heap.size w).alloc (Nat.le_refl _) (.cells (.int .i64 c :: p.row (.slice pa p.dl.length cap)).toArray 36)
  have s0 : (w.alloc (.cells (.int .i64 c :: p.row (.slice pa p.dl.length cap)).toArray 36)).heap.size = w.heap.size + 1 := by simp
  have b1 := (Below.refl _ (w.alloc (.cells (.int .i64 c :: p.row (.slice pa p.dl.length cap)).toArray 36))).alloc (Nat.le_refl _) (.cells zPk 36)
  have B1 := hide (b0.trans (b1.mono b0.size))
  have K1 := hide (HK.out.below b1)
  have N1 : Hid (((w.alloc (.cells (.int .i64 c :: p.row (.slice pa p.dl.length cap)).toArray 36)).alloc (.cells zPk 36)).heap[w.heap.size + 1]? = some (.cells zPk 36 (0, 0))) := hide (by rw [← s0]; exact Go.heap_alloc_new _ _)
  have HB := hide (h.below B1.out)
  have HCP := hide (copied_any _ _ _ HB.out (by omega))
  have HPN := hide hp
  unfold pkV
  have HRP := hide fun v' => row_put c hp.n (.slice pa p.dl.length cap) v'
  have HPCs := hide fun (va : Option Addr) (vc : Nat) => pc_of c hp.n (.slice va p.dl.length vc) rfl
  generalize hcs : (.int .i64 c :: p.row (.slice pa p.dl.length cap)).toArray = CS at *
  have kd := K1.out.dat
  have kf : ((w.alloc (.cells CS 36)).alloc (.cells zPk 36)).frozen? ⟨w.heap.size, 42, none⟩ = false := by have hr := K1.out.row; rw [hcs] at hr; exact frozen_of_row _ _ _ _ _ hr
  have HCS := hide hcs
  generalize hy : (w.alloc (.cells CS 36)).alloc (.cells zPk 36) = y at *
  unfold zPk at hy
  have HY := hide hy
  clear h h1 h2 h3 h4 h5 b0 b1 s0 hcs hp HK HPV hy
  cases pa with
  | none =>
    go_enter Tryd.func7, Tryd.ntmps7
    have R1 : Hid (y.heap[w.heap.size]? = some (.cells CS 36 (0, 0))) := hide (by have := K1.out.row; rw [HCS.out] at this; exact this)
    clear kd
    have kd := K1.out.dat
    go_wp2_with (first
      | (rw [HY.out])
      | (refine wpList_load_row rfl 36 (.tmp 1) rfl w.heap.size (by first | rfl | simp [Act.eval, Act.put]) 36 CS (0, 0) _ R1.out Tryd.underlying36 rfl PC0.out.i ?_)
      | (refine wpList_store_row rfl 36 (.tmp 2) (.tmp 10) rfl (w.heap.size + 1) CS (by first | rfl | simp [Act.eval, Act.put]) (by first | rfl | simp [Act.eval, Act.put]) 36 zPk N1.out PC0.out.i PC0.out.z PC0.out.o ?_))
    have hbb : Below w.heap.size w (y.setRow (w.heap.size + 1) CS) := by
      have hb := B1.out
      refine ⟨hb.os, hb.tape, hb.output, by simp [World.setRow]; exact hb.size, fun j hj => ?_⟩
      rw [setRow_other _ _ _ _ (by omega)]; exact hb.block j hj
    refine bodyPost_ret (results_row (p := 2) rfl _ _ (w.heap.size + 1) 36 CS (0, 0) _ (by kernel_rfl) (zpk_row _ N1.out) Tryd.underlying36 rfl PC0.out.i) rfl ⟨.slice none p.dl.length cap, ?_, ?_, ?_, hbb⟩
    · rw [← HCS.out]
    · exact HB.out.stay fun g hg => by simp [Value.ownBlock] at hg
    · intro g hg; simp [Value.ownBlock] at hg
  | some ad =>
    go_enter Tryd.func7, Tryd.ntmps7
    go_wp2_with (first
      | (rw [HY.out])
      | (go_at_call 8; refine HCP.out.mono ?_; rintro e' z ⟨v', rfl, ho, hb⟩; have BZ := hide (B1.out.trans (hb.mono B1.out.size)); have HO := hide ho; have KZ := hide (K1.out.below hb); have NZ := hide ((hb.block _ (Array.getElem?_eq_some_iff.1 N1.out).1).trans N1.out); have kd2 := (hb.block _ (Array.getElem?_eq_some_iff.1 K1.out.row).1); have kz := KZ.out.dat; have kzf : z.frozen? ⟨w.heap.size, 42, none⟩ = false := frozen_of_row _ _ _ _ _ KZ.out.row; have RZ := hide (KZ.out.row); rw [HCS.out] at RZ; obtain ⟨va, vc, hv, _⟩ := id ho.bsl; subst hv; have PCZ := hide (HPCs.out va vc); have RS := hide ((Go.heap_setCell_same z w.heap.size 42 _ 36 (.slice va p.dl.length vc) RZ.out)); rw [HRP.out] at RS; have NS : Hid ((z.setCell ⟨w.heap.size, 42, none⟩ (.slice va p.dl.length vc)).heap[w.heap.size + 1]? = some (.cells zPk 36 (0, 0))) := hide ((Go.heap_setCell_other _ _ _ _ (by show w.heap.size + 1 ≠ w.heap.size; omega)).trans NZ.out); generalize hcv : (.int .i64 c :: p.row (.slice va p.dl.length vc)).toArray = CV at *; clear ho hb HCP kd2 RZ)
      | (refine wpList_load_row rfl 36 (.tmp 1) rfl w.heap.size (by first | rfl | simp [Act.eval, Act.put]) 36 CV (0, 0) _ RS.out Tryd.underlying36 rfl PCZ.out.i ?_)
      | (refine wpList_store_row rfl 36 (.tmp 2) (.tmp 10) rfl (w.heap.size + 1) CV (by first | rfl | simp [Act.eval, Act.put]) (by first | rfl | simp [Act.eval, Act.put]) 36 zPk NS.out PCZ.out.i PCZ.out.z PCZ.out.o ?_))
    have hb2 : Below w.heap.size w (z.setCell ⟨w.heap.size, 42, none⟩ (.slice va p.dl.length vc)) := BZ.out.setCell (p := ⟨w.heap.size, 42, none⟩) (Nat.le_refl _) _
    have hbb : Below w.heap.size w ((z.setCell ⟨w.heap.size, 42, none⟩ (.slice va p.dl.length vc)).setRow (w.heap.size + 1) CV) := by
      refine ⟨hb2.os, hb2.tape, hb2.output, by simp [World.setRow]; exact BZ.out.size, fun j hj => ?_⟩
      rw [setRow_other _ _ _ _ (by omega)]; exact hb2.block j hj
    have hN := (Array.getElem?_eq_some_iff.1 N1.out).1
    refine bodyPost_ret (results_row (p := 2) rfl _ _ (w.heap.size + 1) 36 CV (0, 0) _ (by kernel_rfl) (zpk_row _ NS.out) Tryd.underlying36 rfl PCZ.out.i) rfl ⟨.slice va p.dl.length vc, ?_, ?_, ?_, hbb⟩
    · rw [← hcv]
    · refine HO.out.bsl.stay fun g hg => ?_
      have := (HO.out.block hg).1
      rw [setRow_other _ _ _ _ (by omega)]
      exact Go.heap_setCell_other _ _ _ _ (by show g ≠ w.heap.size; omega)
    · intro g hg
      have := (HO.out.block hg).2
      simpa [World.setRow] using this
end Go.Proofs.YtedhohamdbplhaaDoor
namespace Go.Proofs.YtedhohamdbplhaaDoor
open Go.RowKit
set_option linter.unusedVariables false
set_option linter.unusedSimpArgs false
set_option maxRecDepth 20000

/-- what EncodePacket says, in the two cases -/
theorem perr_cases (c : Int) (p : PV) (hp : p.Ok) (hdl : ∀ x ∈ p.dl, x < 256) : (perr c p ≠ 0 ∧ pbytes c p = []) ∨ ∃ cc : Nat, c = (cc : Int) ∧ perr c p = 0 ∧ 0 < (pbytes c p).length ∧ (∀ x ∈ pbytes c p, x < 256) ∧ dErr (pbytes c p) = 0 ∧ dC (pbytes c p) = cc ∧ dPv (pbytes c p) = p ∧ dAt (pbytes c p) = 0 := by
  by_cases h : perr c p = 0
  · right
    have hr : ¬ (c < 1 ∨ 25 < c) := fun e => by unfold perr at h; rw [if_pos e] at h; cases h
    obtain ⟨cc, rfl⟩ : ∃ cc : Nat, c = (cc : Int) := ⟨c.toNat, by omega⟩
    have hf : fitAll p (fdL cc) = true := by
      cases e : fitAll p (fdL cc) with
      | true => rfl
      | false => rw [(perr_no (by omega) (by omega) e).1] at h; cases h
    have hb := packet_back (c := cc) (by omega) (by omega) hp hdl hf
    have e := (perr_yes (c := cc) (by omega) (by omega) hf).2
    have hby : ∀ x ∈ pbytes cc p, x < 256 := by
      rw [e]
      intro x hx
      rcases List.mem_cons.1 hx with rfl | hx
      · omega
      · obtain ⟨f, hf, hx⟩ := List.mem_flatMap.1 hx
        cases f with
        | num n => exact be_lt _ _ x hx
        | ids =>
          simp only [encF, List.mem_append] at hx
          rcases hx with ((hx | hx) | hx) | hx
          · exact be_lt _ _ x hx
          · exact be_lt _ _ x hx
          · exact be_lt _ _ x hx
          · exact be_lt _ _ x hx
        | sum t => exact hp.s x hx
        | dat lo hi t =>
          simp only [encF, List.mem_append] at hx
          rcases hx with hx | hx
          · exact be_lt _ _ x hx
          · exact hdl x hx
    refine ⟨cc, rfl, h, by rw [e]; simp, hby, ?_⟩
    rw [e]
    exact hb
  · left
    exact ⟨h, by unfold pbytes; rw [if_neg h]⟩
/-- what DecodePacket says of a list of one's own that is not empty -/
theorem decF_own (w : World) (g cap k : Nat) (l : List Nat) (hk : l.length = k) (h : BSl w (.slice (some ⟨g, 0, none⟩) k cap) l) (hg : g < w.heap.size) (hT : BTab w) :
    Calls Tryd.prog 9 #[.slice (some ⟨g, 0, none⟩) k cap] w fun e' w' => DecF w l e' w' := by
  subst hk
  obtain ⟨a, c, e, h1, h2, h3, h4, h5⟩ := h
  simp only [Value.slice.injEq] at e
  obtain ⟨rfl, _, rfl⟩ := e
  refine decP_full w g 0 cap l hg h1 h2 h4 (fun i hi => ?_) hT
  obtain ⟨b, off, e, hc⟩ := h5 (by omega)
  simp only [Option.some.injEq, Addr.mk.injEq] at e
  obtain ⟨rfl, rfl, _⟩ := e
  exact hc i hi
end Go.Proofs.YtedhohamdbplhaaDoor
namespace Go.Proofs.YtedhohamdbplhaaDoor
open Go.RowKit
set_option linter.unusedVariables false
set_option linter.unusedSimpArgs false
set_option maxRecDepth 20000

end Go.Proofs.YtedhohamdbplhaaDoor
namespace Go.Proofs.YtedhohamdbplhaaDoor
open Go.RowKit
set_option linter.unusedVariables false
set_option linter.unusedSimpArgs false
set_option maxRecDepth 20000

/-- a packet of Bits, as a value -/
def cqA (W K : Nat) (v : Value) : Array Value := (.int .i64 7 :: (bitsP W K []).row v).toArray
theorem cqA_pk (W K : Nat) (c : List Nat) (v : Value) : pkV 7 (bitsP W K c) v = .agg (cqA W K v) := rfl
/-- what the bytes of a packet of Bits are -/
def PBok (W K : Nat) (c PB : List Nat) : Prop := (0 < PB.length ∧ PB.length ≤ 2048) ∧ (∀ x ∈ PB, x < 256) ∧ dErr PB = 0 ∧ dC PB = 7 ∧ dPv PB = bitsP W K c ∧ dAt PB = 0
theorem encBits {y : World} {W K m Bv : Nat} {c : List Nat} {cv : Value} (hW : W ≤ 63) (hK : 1 ≤ K) (hK8 : K ≤ 8) (hWK : W + K ≤ 64) (hm : m ≤ 512) (hc : B.Wrt c (B.encD Bv m)) (hv : BSl y cv c) (hg : ∀ g, cv.ownBlock = some g → g < y.heap.size) (hT : BTab y) :
    Calls Tryd.prog 6 #[.agg (cqA W K cv)] y fun e w' => ∃ v' PB, e = .returned (.tuple #[v', .int .i64 0]) ∧ PBok W K c PB ∧ Own w' y.heap.size v' PB ∧ Below y.heap.size y w' := by
  obtain ⟨l1, l2⟩ := code_len hc
  have hok := bitsP_ok (W := W) (K := K) (dl := c) (by omega) (by omega)
  have hfit := bits_fit (W := W) (K := K) (dl := c) hW hK hK8 hWK l1 (by omega)
  have hpe : perr 7 (bitsP W K c) = 0 := (perr_yes (c := 7) (by decide) (by decide) hfit).1
  rw [← cqA_pk W K c]
  refine (encodePacket_any y 7 (bitsP W K c) cv hok hv hg hT).mono ?_
  rintro e w' ⟨v', rfl, ho, hb⟩
  refine ⟨v', pbytes 7 (bitsP W K c), by rw [hpe]; rfl, ?_, ho, hb⟩
  rcases perr_cases 7 (bitsP W K c) hok hc.1 with ⟨h, -⟩ | ⟨cc, hcc, -, q1, q2, q3, q4, q5, q6⟩
  · exact absurd hpe h
  · have : cc = 7 := by omega
    subst this
    have := len_small q2 q3
    exact ⟨⟨q1, by omega⟩, q2, q3, q4, q5, q6⟩
/-- what the bytes of the frame are -/
def FBok (W : Nat) (PB FB : List Nat) : Prop := 26 ≤ FB.length ∧ derr FB = 0 ∧ dk FB = 2 ∧ dw FB 0 = 1 ∧ dw FB 1 = 2 ∧ dw FB 2 = W ∧ dw FB 3 = 0 ∧ dp FB = PB
theorem encFr {y : World} {W K : Nat} {c PB : List Nat} {v : Value} (hW : W ≤ 63) (hP : PBok W K c PB) (hv : BSl y v PB) :
    Calls Tryd.prog 13 #[.agg #[.int .i64 2, .int .u32 1, .int .u32 2, .int .u32 (W : Int), .int .u32 0, v]] y fun e w' => ∃ v' FB, e = .returned (.tuple #[v', .int .i64 0]) ∧ FBok W PB FB ∧ Own w' y.heap.size v' FB ∧ Below y.heap.size y w' := by
  obtain ⟨⟨p1, p2⟩, p3, -⟩ := hP
  have hE : ferr 2 PB.length = 0 := by
    unfold ferr
    rw [if_neg (by omega), if_neg (by omega)]
  refine (encodeFrame_any y 2 1 2 W 0 v PB hv (by omega) (by omega) (by omega) (by omega) (by omega) (by omega)).mono ?_
  rintro e w' ⟨v', rfl, ho, hb⟩
  refine ⟨v', fbytes 2 1 2 W 0 PB, by rw [hE]; rfl, ?_, ho, hb⟩
  have hfb : fbytes 2 1 2 W 0 PB = frm 2 1 2 W 0 (fsum 2 1 2 W 0 PB) PB := by unfold fbytes; rw [if_pos hE]; rfl
  have hE2 : ferr ((2 : Nat) : Int) PB.length = 0 := hE
  obtain ⟨q1, q2, q3, q4, q5, q6, q7⟩ := derr_frm (k := 2) (a := 1) (b := 2) (c := W) (d := 0) (p := PB) hE2 (by omega) (by omega) (by omega) (by omega) p3
  rw [hfb]
  exact ⟨by rw [frm_len]; omega, q1, q2, q3, q4, q5, q6, q7⟩
theorem decFr {y : World} {W K : Nat} {c PB FB : List Nat} {v : Value} (hP : PBok W K c PB) (hF : FBok W PB FB) (hv : BSl y v FB) :
    Calls Tryd.prog 15 #[v] y fun e w' => ∃ g cap, e = .returned (.tuple #[.agg #[.int .i64 2, .int .u32 1, .int .u32 2, .int .u32 (W : Int), .int .u32 0, .slice (some ⟨g, 0, none⟩) PB.length cap], .int .i64 0]) ∧ (PB.length ≤ cap ∧ cap ≤ 9223372036854775807) ∧ BSl w' (.slice (some ⟨g, 0, none⟩) PB.length cap) PB ∧ g < w'.heap.size ∧ Below y.heap.size y w' := by
  obtain ⟨q0, q1, q2, q3, q4, q5, q6, q7⟩ := hF
  refine (decodeFrame_any y v FB hv).mono ?_
  rintro e w' ⟨v', rfl, ho, hb⟩
  rw [q7] at ho
  obtain ⟨g, cap, rfl, -, hg, h1, h2⟩ := ho.shape hP.1.1
  unfold maxLen at h2
  refine ⟨g, cap, ?_, ⟨h1, by omega⟩, ho.bsl, hg, hb⟩
  unfold frV
  rw [q1, q2, q3, q4, q5, q6]
  rfl
theorem decBits {y : World} {W K g cap : Nat} {c PB : List Nat} (hP : PBok W K c PB) (hv : BSl y (.slice (some ⟨g, 0, none⟩) PB.length cap) PB) (hg : g < y.heap.size) (hT : BTab y) :
    Calls Tryd.prog 9 #[.slice (some ⟨g, 0, none⟩) PB.length cap] y fun e w' => ∃ a k cc, e = .returned (.tuple #[.agg (cqA W K (.slice a k cc)), .int .i64 0, .int .i64 0]) ∧ BSl w' (.slice a k cc) c ∧ Below y.heap.size y w' := by
  obtain ⟨-, p3, p4, p5, p6, p7⟩ := hP
  refine (decF_own y g cap PB.length PB rfl hv hg hT).mono ?_
  rintro e w' ⟨v', rfl, hb, hbl, -⟩
  rw [p6] at hb
  obtain ⟨a, cc, rfl, -⟩ := id hb
  refine ⟨a, _, cc, ?_, hb, hbl⟩
  rw [p4, p5, p6, p7]
  rfl
theorem csl_of {y : World} {v : Value} {c : List Nat} (h : BSl y v c) : B.CSl y v c := by
  obtain ⟨a, cap, rfl, h1, h2, h3, h4, h5⟩ := h
  exact ⟨a, cap, rfl, h1, h2, h4, h5⟩
theorem own_bsl {y : World} {base : Nat} {v : Value} {c : List Nat} (h : y.ownsRow base 5 1 v c.length (c.map B.byV)) (hb : ∀ x ∈ c, x < 256) : Own y base v c := ⟨h, hb⟩
theorem decWords {y : World} {m Bv : Nat} {c : List Nat} {v : Value} {l : List Nat} (h1 : 1 ≤ m) (h2 : m ≤ 512) (hc : B.Wrt c (B.encD Bv m)) (hB : Bv < 2 ^ m) (hl : B.wds Bv (B.nW m) = l) (hv : BSl y v c) :
    Calls Tryd.prog 37 #[.int .i64 (m : Int), v] y fun e w' => ∃ v', e = .returned (.tuple #[v', .int .i64 0, .int .i64 0]) ∧ B.WSl w' v' l ∧ Below y.heap.size y w' := by
  have hlen := (code_len hc).2
  have hd := B.dOut_enc h1 (by omega) hB hc
  refine (B.decode_any h1 (by omega) (csl_of hv) (by omega)).mono ?_
  rintro e w' hp
  rw [hd] at hp
  obtain ⟨v', rfl, -, hw, -, hb⟩ := hp
  rw [hl] at hw
  exact ⟨v', rfl, hw, hb⟩
theorem encWords {y : World} {m : Nat} {v : Value} {l : List Nat} (hD : B.TabAt y) (hv : B.WSl y v l) (h1 : 1 ≤ m) (h2 : m ≤ 512) (he : B.cwErr m l = 0) :
    Calls Tryd.prog 36 #[.int .i64 (m : Int), v] y fun e w' => ∃ cv c, e = .returned (.tuple #[cv, .int .i64 0]) ∧ B.Wrt c (B.encD (B.valW l) m) ∧ BSl w' cv c ∧ (∀ g, cv.ownBlock = some g → g < w'.heap.size) ∧ Below y.heap.size y w' := by
  refine (B.encode_main m hD hv h1 (by omega) he).mono ?_
  rintro e w' ⟨cv, c, rfl, ho, hW, hb⟩
  have hown := own_bsl ho hW.1
  refine ⟨cv, c, rfl, hW, hown.bsl, fun g hg => ?_, hb⟩
  have := hown.shape (code_len hW).1
  obtain ⟨g', cap, rfl, -, h, -⟩ := this
  simp [Value.ownBlock] at hg
  omega
end Go.Proofs.YtedhohamdbplhaaDoor
namespace Go.Proofs.YtedhohamdbplhaaDoor
open Go.RowKit
set_option linter.unusedVariables false
set_option linter.unusedSimpArgs false
set_option maxRecDepth 20000

theorem own_wsl {w : World} {base : Nat} {v : Value} {l : List Nat} (h : w.ownsRow base 30 1 v l.length (l.map B.u64V)) (hb : ∀ b ∈ l, b < 18446744073709551616) : B.WSl w v l := by
  rcases h.2 with ⟨rfl, h0⟩ | ⟨g, cap, cur, rfl, hg, hh, h1, h2, h3, h4⟩
  · have : l = [] := List.eq_nil_of_length_eq_zero h0
    subst this
    exact ⟨none, 0, rfl, Nat.le_refl _, Nat.zero_le _, fun _ => rfl, hb, fun h => absurd h (by simp)⟩
  · refine ⟨_, cap, rfl, h1, h2, fun e => (by cases e), hb, fun _ => ⟨g, 0, rfl, fun i hi => ?_⟩⟩
    rw [Nat.zero_add, h.cellAt i (by omega)]
    simp [B.u64V, hi, List.getD]
theorem cq_cells {y : World} {g W K : Nat} {v : Value} (h : y.heap[g]? = some (.cells (cqA W K v) 36 (0, 0))) : (y.cell? ⟨g, 0, none⟩ = some (.int .i64 7) ∧ y.cell? ⟨g, 2, none⟩ = some (.int .u32 (W : Int))) ∧ y.cell? ⟨g, 4, none⟩ = some (.int .u32 (K : Int)) ∧ y.cell? ⟨g, 42, none⟩ = some v :=
  ⟨⟨cell_of_row _ _ _ _ _ _ h, cell_of_row _ _ _ _ _ _ h⟩, cell_of_row _ _ _ _ _ _ h, cell_of_row _ _ _ _ _ _ h⟩
set_option maxHeartbeats 4000000 in
theorem brought_any (w : World) (W K m : Nat) (v : Value) (l : List Nat) (hT : BTab w) (hD : B.TabAt w) (hv : B.WSl w v l) (h1 : 1 ≤ m) (h2 : m ≤ 512) (he : B.cwErr m l = 0) (hW : W ≤ 63) (hK : 1 ≤ K) (hK8 : K ≤ 8) (hWK : W + K ≤ 64) :
    Calls Tryd.prog 18 #[.int .i64 (W : Int), .int .i64 (K : Int), .int .i64 (m : Int), v] w fun e w' => ∃ v', e = .returned (.tuple #[v', .bool true]) ∧ B.WSl w' v' l ∧ Below w.heap.size w w' := by
  obtain ⟨i0, hi, hz0, hz1, hz2⟩ := info_parts B.info_u64
  have hlt := hv.lt
  obtain ⟨hlen, hB⟩ := B.valW_listed h1 hlt he
  have hwd := B.wd_val hlt
  rw [hlen] at hwd
  have hl0 : 0 < l.length := by rw [hlen]; unfold B.nW; omega
  have hl8 : l.length ≤ 8 := by rw [hlen]; unfold B.nW; omega
  have HE := hide fun y v' (hD' : B.TabAt y) (hv' : B.WSl y v' l) => encWords hD' hv' h1 h2 he
  have HEP := hide fun y c cv (hc : B.Wrt c (B.encD (B.valW l) m)) (hv : BSl y cv c) hg hT => encBits (y := y) hW hK hK8 hWK h2 hc hv hg hT
  have HEF := hide fun y c PB v (hP : PBok W K c PB) (hv : BSl y v PB) => encFr (y := y) hW hP hv
  have HDF := hide fun y c PB FB v (hP : PBok W K c PB) (hF : FBok W PB FB) (hv : BSl y v FB) => decFr (y := y) hP hF hv
  have HDP := hide fun y g cap c PB (hP : PBok W K c PB) (hv : BSl y (.slice (some ⟨g, 0, none⟩) PB.length cap) PB) hg hT => decBits (y := y) hP hv hg hT
  have HDW := hide fun y v c (hc : B.Wrt c (B.encD (B.valW l) m)) (hv : BSl y v c) => decWords (y := y) h1 h2 hc hB hwd hv
  obtain ⟨va, vcap, rfl, q1, q2, q3, q4, q5⟩ := id hv
  obtain ⟨vb, voff, rfl, -⟩ := q5 hl0
  have hnews := (hv.below ((Below.refl _ _).alloc (Nat.le_refl _) (.cells #[] 30))).news
  have hone := B.u64V_oneCell l
  have hmade : (w.alloc (.cells #[] 30)).ownsRow w.heap.size 30 1 (.slice (some ⟨w.heap.size, 0, none⟩) 0 0) 0 [] := World.ownsRow_made w #[] 0 (Nat.le_refl _) (by unfold maxLen; omega) rfl
  have hnl : (l.map B.u64V).length = l.length * 1 := by simp
  have HT0 := hide hT
  have HD0 := hide hD
  have HLT := hide hlt
  have hw1 : IntKind.u32.wrap (W : Int) = (W : Int) := by simp [IntKind.wrap, IntKind.bits, IntKind.signed]; omega
  have hw2 : IntKind.u32.wrap (K : Int) = (K : Int) := by simp [IntKind.wrap, IntKind.bits, IntKind.signed]; omega
  clear hT hD hlt hlen hwd hB he hv q5 q4
  go_enter Tryd.func18, Tryd.ntmps18
  go_wp2_with (at_builtin; refine wpList_append_own _ rfl (.tmp 26) (.tmp 27) 55 rfl w.heap.size 30 i0 (.int .u64 0) 1 8 Tryd.underlying55 hi hz0 hz1 hz2 rfl (by decide) _ _ _ rfl hmade ⟨vb, voff, none⟩ l.length vcap (l.map B.u64V) rfl hnl hnews hone (by unfold maxLen; omega) (by omega) (by simp) ?_)
  intro v1 y1 hown hg1 _
  have hb1 : Below w.heap.size w y1 := ((Below.refl _ _).alloc (Nat.le_refl _) _).grown hg1 (by simp) (by simp [Value.ownBlock])
  have hs1 := own_wsl (by simpa using hown) HLT.out
  have HE1 := hide (HE.out y1 v1 (HD0.out.below hb1) hs1)
  have B1 := hide hb1
  have T1 := hide (HT0.out.below hb1)
  clear hnews hone hmade hnl hown hg1 hb1 hs1 HE HT0 HD0 HLT
  go_wp2_with (first
    | (go_at_call 36; refine HE1.out.mono ?_; rintro e y2 ⟨cv, c, rfl, hc, hcv, hg2, hb2⟩; obtain ⟨ca, ccap, hcvv, -⟩ := id hcv; subst hcvv; have B2 := hide (B1.out.trans (hb2.mono B1.out.size)); have T2 := hide (T1.out.below hb2); have HC := hide hc; have HE2 := hide (HEP.out y2 c _ hc hcv hg2 T2.out); clear hc hcv hg2 hb2 HE1 B1 T1 HEP)
    | (go_at_call 10; refine (num_any _ _).mono ?_; rintro e' z ⟨rfl, hz⟩; subst hz)
    | (refine wpList_bd rfl 36 _ rfl (cqA W K (.slice ca c.length ccap)) (by kernel_rfl) ?_)
    | (go_at_call 6; refine HE2.out.mono ?_; rintro e y3 ⟨v3, PB, rfl, hP, ho, hb3⟩; obtain ⟨ga3, gc3, hvv3, -⟩ := id ho.bsl; subst hvv3; have B3 := hide (B2.out.trans (hb3.mono B2.out.size)); have T3 := hide (T2.out.below hb3); have HP := hide hP; have HE3 := hide (HEF.out y3 c PB _ hP ho.bsl); clear hP ho hb3 HE2 B2 T2 HEF)
    | (go_at_call 13; refine HE3.out.mono ?_; rintro e y4 ⟨v4, FB, rfl, hF, ho, hb4⟩; obtain ⟨ga4, gc4, hvv4, -⟩ := id ho.bsl; subst hvv4; have B4 := hide (B3.out.trans (hb4.mono B3.out.size)); have T4 := hide (T3.out.below hb4); have HE4 := hide (HDF.out y4 c PB FB _ HP.out hF ho.bsl); clear hF ho hb4 HE3 B3 T3 HDF)
    | (go_at_call 15; refine HE4.out.mono ?_; rintro e y5 ⟨g5, c5, rfl, hc5, hv5, hg5, hb5⟩; have B5 := hide (B4.out.trans (hb5.mono B4.out.size)); have T5 := hide (T4.out.below hb5); have V5 := hide hv5; have G5 := hide hg5; clear hv5 hg5 hb5 HE4 B4 T4))
  have b6 := (Below.refl y5.heap.size y5).alloc (Nat.le_refl _) (.cells #[.int .i64 2, .int .u32 1, .int .u32 2, .int .u32 (W : Int), .int .u32 0, .slice (some ⟨g5, 0, none⟩) PB.length c5] 48)
  have HE5 := hide (HDP.out _ g5 c5 c PB HP.out (V5.out.below b6) (Nat.lt_of_lt_of_le G5.out b6.size) (T5.out.below b6))
  have B6 := hide (B5.out.trans (b6.mono B5.out.size))
  have HPC := hide fun (a : Option Addr) (k cc : Nat) => (pc_of 7 (p := bitsP W K []) rfl (.slice a k cc) rfl : PC (cqA W K (.slice a k cc)))
  clear b6 V5 G5 T5 B5 HDP
  refine HE5.out.mono ?_
  rintro e y6 ⟨pa, pk, pc, rfl, hv6, hb6⟩
  have B7 := hide (B6.out.trans ((hb6.mono B6.out.size).alloc (Nat.le_trans B6.out.size hb6.size) (.cells (cqA W K (.slice pa pk pc)) 36)))
  have V7 := hide (hv6.below ((Below.refl _ _).alloc (Nat.le_refl _) (.cells (cqA W K (.slice pa pk pc)) 36)))
  have P7 := hide (HPC.out pa pk pc)
  have C7 := hide (cq_cells (Go.heap_alloc_new y6 (.cells (cqA W K (.slice pa pk pc)) 36)))
  clear hv6 hb6 HE5 B6 HPC
  go_wp2_with (first
    | (refine wpList_store_row rfl 36 (.tmp 18) (.tmp 71) rfl y6.heap.size (cqA W K (.slice pa pk pc)) (by first | rfl | simp [Act.eval, Act.put]) (by first | rfl | simp [Act.eval, Act.put]) 36 zPk (Go.heap_alloc_new y6 _) P7.out.i P7.out.z P7.out.o ?_; rw [World.setRow_alloc_new]; generalize y6.alloc (.cells (cqA W K (.slice pa pk pc)) 36) = y7 at *; obtain ⟨⟨k0, k2⟩, k4, k42⟩ := C7.out)
    | (go_at_call 10; refine (num_any _ _).mono ?_; rintro e' y7 ⟨rfl, rfl⟩))
  have HE7 := hide (HDW.out _ _ c HC.out V7.out)
  clear HDW V7 P7 C7 k0 k2 k4 k42
  go_wp2_with (first
    | (go_at_call 37; refine HE7.out.mono ?_; rintro e y8 ⟨v8, rfl, hw8, hb8⟩; have W8 := hide hw8; have B8 := hide (B7.out.trans (hb8.mono B7.out.size)); clear hw8 hb8 HE7)
    | (go_at_call 10; refine (num_any _ _).mono ?_; rintro e' y8 ⟨rfl, rfl⟩))
  go_ret2
  exact ⟨_, rfl, W8.out, B8.out⟩
end Go.Proofs.YtedhohamdbplhaaDoor
namespace Go.Proofs.YtedhohamdbplhaaDoor
open Go.RowKit
set_option linter.unusedVariables false
set_option linter.unusedSimpArgs false
set_option maxRecDepth 20000

theorem wsl_sub {w : World} {b off cap i k : Nat} {l : List Nat} (h : B.WSl w (.slice (some ⟨b, off, none⟩) l.length cap) l) (hk : i + k ≤ l.length) : B.WSl w (.slice (some ⟨b, off + i, none⟩) k (cap - i)) ((l.drop i).take k) := by
  obtain ⟨a, c, e, h1, h2, h3, h4, h5⟩ := h
  simp only [Value.slice.injEq] at e
  obtain ⟨rfl, -, rfl⟩ := e
  have hlen : ((l.drop i).take k).length = k := by simp; omega
  refine ⟨some ⟨b, off + i, none⟩, cap - i, by rw [hlen], by rw [hlen]; omega, by omega, (fun e => by cases e), fun x hx => h4 x (List.mem_of_mem_drop (List.mem_of_mem_take hx)), fun hp => ⟨b, off + i, rfl, fun j hj => ?_⟩⟩
  rw [hlen] at hj
  obtain ⟨b', off', e, hc⟩ := h5 (by omega)
  simp only [Option.some.injEq, Addr.mk.injEq, and_true] at e
  obtain ⟨rfl, rfl⟩ := e
  have e1 : ((l.drop i).take k).getD j 0 = l.getD (i + j) 0 := by simp [List.getD, List.getElem?_take, hj]
  rw [e1, Nat.add_assoc]
  exact hc (i + j) (by omega)
theorem wsl_subN {w : World} {b off cap i k nw : Nat} {l : List Nat} (hn : l.length = nw) (h : B.WSl w (.slice (some ⟨b, off, none⟩) nw cap) l) (hk : i + k ≤ nw) : B.WSl w (.slice (some ⟨b, off + i, none⟩) k (cap - i)) ((l.drop i).take k) := by
  subst hn
  exact wsl_sub h hk
theorem wsl_cell {w : World} {v : Value} {l : List Nat} (h : B.WSl w v l) (h0 : 0 < l.length) : ∃ b off cap, v = .slice (some ⟨b, off, none⟩) l.length cap ∧ (l.length ≤ cap ∧ cap ≤ 9223372036854775807) ∧ ∀ i, i < l.length → w.cell? ⟨b, off + i, none⟩ = some (.int .u64 (l.getD i 0 : Nat)) := by
  obtain ⟨a, cap, rfl, h1, h2, h3, h4, h5⟩ := h
  obtain ⟨b, off, rfl, hc⟩ := h5 h0
  unfold maxLen at h2
  exact ⟨b, off, cap, rfl, ⟨h1, by omega⟩, hc⟩
theorem belDrews {N : Nat} {w w' : World} (h : Below N w w') : ∀ m, Below N w (w'.drewN m)
  | 0 => h
  | m + 1 => (belDrews h m).drew
theorem own_wshape {w : World} {base k : Nat} {v : Value} {q : List Nat} (hk : q.length = k) (h : w.ownsRow base 30 1 v k (q.map B.u64V)) (hp : 0 < k) (hb : ∀ b ∈ q, b < 18446744073709551616) : ∃ g cap, v = .slice (some ⟨g, 0, none⟩) k cap ∧ base ≤ g ∧ (k ≤ cap ∧ cap ≤ 9223372036854775807) ∧ (∀ j, j < k → w.cell? ⟨g, j, none⟩ = some (.int .u64 (q.getD j 0 : Nat)) ∧ w.frozen? ⟨g, j, none⟩ = false) ∧ ∀ (j x : Nat), x < 18446744073709551616 → B.WSl (w.setCell ⟨g, j, none⟩ (.int .u64 (x : Int))) (.slice (some ⟨g, 0, none⟩) k cap) (q.set j x) := by
  subst hk
  obtain ⟨g, cap, rfl, hg, h1, h2⟩ : ∃ g cap, v = .slice (some ⟨g, 0, none⟩) q.length cap ∧ base ≤ g ∧ q.length ≤ cap ∧ cap ≤ maxLen := by
    rcases h.2 with ⟨rfl, h0⟩ | ⟨g, cap, cur, rfl, hg, hh, h1, h2, h3, h4⟩
    · omega
    · exact ⟨g, cap, rfl, hg, h1, h2⟩
  unfold maxLen at h2
  refine ⟨g, cap, rfl, hg, ⟨h1, by omega⟩, fun j hj => ⟨?_, h.frozenAt j⟩, fun j x hx => ?_⟩
  · rw [h.cellAt j (by omega)]
    simp [B.u64V, hj, List.getD]
  · have hs := (h.stored j (.int .u64 (x : Int))).1
    have e : (q.map B.u64V).set j (.int .u64 (x : Int)) = (q.set j x).map B.u64V := by rw [List.map_set]; rfl
    rw [e] at hs
    have := own_wsl (l := q.set j x) (v := .slice (some ⟨g, 0, none⟩) q.length cap) (by rw [List.length_set]; exact hs) (fun b hb' => by
      rcases List.mem_or_eq_of_mem_set hb' with h9 | h9
      · exact hb b h9
      · omega)
    exact this
theorem wsl_cells0 {w : World} {g k cap : Nat} {q : List Nat} (hk : q.length = k) (hp : 0 < k) (h : B.WSl w (.slice (some ⟨g, 0, none⟩) k cap) q) : ∀ j, j < k → w.cell? ⟨g, j, none⟩ = some (.int .u64 (q.getD j 0 : Nat)) := fun j hj => by
  obtain ⟨b, off, c, e, -, hc⟩ := wsl_cell h (by omega)
  simp only [Value.slice.injEq, Option.some.injEq, Addr.mk.injEq] at e
  obtain ⟨⟨rfl, rfl, -⟩, -, -⟩ := e
  have := hc j (by omega)
  rwa [Nat.zero_add] at this
theorem example_or (w : World) (hT : BTab w) : Calls Tryd.prog 5 #[] w fun e' w' => e' = .returned (.bool true) ∧ Below w.heap.size w w' := example_any w hT
set_option maxHeartbeats 1000000 in
theorem carry_no (w : World) (n : Int) (v : Value) (l : List Nat) (hT : BTab w) (hv : B.WSl w v l) (hn : ¬ (1 ≤ n ∧ n ≤ 4096 ∧ (l.length : Int) = (n + 63) / 64)) (hr : l.length ≤ 17592186044416) (hwf : -9223372036854775808 ≤ n ∧ n ≤ 9223372036854775807) :
    Calls Tryd.prog 4 #[.int .i64 n, v] w fun e w' => e = .returned (.bool true) ∧ Below w.heap.size w w' := by
  have HX := hide (example_any w hT)
  obtain ⟨a, cap, rfl, -⟩ := hv
  clear hT
  by_cases h1 : n < 1
  · clear hn
    go_enter Tryd.func4, Tryd.ntmps4
    go_wp2_with (go_at_call 5; refine HX.out.mono ?_; rintro e y ⟨rfl, hb⟩; have HB := hide hb; clear hb HX)
    go_ret
    exact ⟨rfl, HB.out⟩
  · by_cases h2 : 4096 < n
    · clear hn
      go_enter Tryd.func4, Tryd.ntmps4
      go_wp2_with (go_at_call 5; refine HX.out.mono ?_; rintro e y ⟨rfl, hb⟩; have HB := hide hb; clear hb HX)
      go_ret
      exact ⟨rfl, HB.out⟩
    · have hq : n + 63 = n + 63 := rfl
      have hne : ((l.length : Int) != (n + 63) / 64) = true := by simp; omega
      have hne2 : ¬ (l.length : Int) = (n + 63) / 64 := by omega
      have hdiv : (n + 63).tdiv 64 = (n + 63) / 64 := Int.tdiv_eq_ediv_of_nonneg (by omega)
      clear hn hq
      go_enter Tryd.func4, Tryd.ntmps4
      go_wp2_with (go_at_call 5; refine HX.out.mono ?_; rintro e y ⟨rfl, hb⟩; have HB := hide hb; clear hb HX)
      go_ret
      exact ⟨rfl, HB.out⟩
set_option maxHeartbeats 4000000 in
theorem carry_yes (w : World) (n : Nat) (v : Value) (l : List Nat) (hT : BTab w) (hD : B.TabAt w) (hv : B.WSl w v l) (h1 : 1 ≤ n) (h2 : n ≤ 4096) (hlen : l.length = (n + 63) / 64) :
    Calls Tryd.prog 4 #[.int .i64 (n : Int), v] w fun e w' => e = .returned (.bool true) ∧ Below w.heap.size w w' := by
  have HX := hide (example_any w hT)
  obtain ⟨i0, hi, hz0, hz1, hz2⟩ := info_parts B.info_u64
  have hl0 : 0 < l.length := by omega
  obtain ⟨vb, voff, vcap, rfl, ⟨hc1, hc2⟩, -⟩ := wsl_cell hv hl0
  have HLT := hide hv.lt
  have HV := hide fun y (hy : Below w.heap.size w y) => hv.below hy
  have HT := hide fun y (hy : Below w.heap.size w y) => hT.below hy
  have HD := hide fun y (hy : Below w.heap.size w y) => hD.below hy
  have hdiv : ((n : Int) + 63).tdiv 64 = (l.length : Int) := by rw [Int.tdiv_eq_ediv_of_nonneg (by omega)]; omega
  have hdiv2 : ((n : Int) + 63) / 64 = (l.length : Int) := by omega
  have hn1 : ¬ (n : Int) < 1 := by omega
  have hn2 : ¬ 4096 < (n : Int) := by omega
  have HLN : Hid (l.length = (n + 63) / 64) := hide hlen
  have hnw1 : (n : Int) ≤ 64 * (l.length : Int) := by omega
  have hnw2 : 64 * (l.length : Int) < (n : Int) + 64 := by omega
  have hnw3 : l.length ≤ 64 := by omega
  clear hT hD hv hlen
  have HLE : Hid (l.length = l.length) := hide rfl
  generalize hnw : l.length = nw at *
  have HNW := hide hnw
  clear hnw HLE
  go_enter Tryd.func4, Tryd.ntmps4
  go_wp2_with (go_at_call 5; refine HX.out.mono ?_; rintro e y0 ⟨rfl, hb⟩; have HB0 := hide hb; clear hb HX)
  clear hdiv hdiv2 hn1 hn2
  go_loopw [5] (fun x wr => ∃ i : Nat, i ≤ nw + 8 ∧ x = .int .i64 (i : Int) ∧ Below w.heap.size w wr) (fun x _ => nw + 8 - (intOf x).toNat)
  case atStart => exact ⟨0, Nat.zero_le _, rfl, HB0.out⟩
  case round =>
    clear HB0
    obtain ⟨i, hin, rfl, hbw⟩ := hrel
    have HBW := hide hbw
    clear hbw
    by_cases hlt : i < nw
    case neg =>
      go_wp2_with fail
      go_ret
      exact ⟨rfl, HBW.out⟩
    have hltI : (i : Int) < (nw : Int) := by omega
    by_cases hk : 8 < nw - i
    · have HM : Hid (512 < n - 64 * i) := hide (by have := HLN.out; omega)
      have hb1 : (512 : Int) < (n : Int) - 64 * (i : Int) := by have := HM.out; omega
      obtain ⟨q, hq⟩ : ∃ q, q = (l.drop i).take 8 := ⟨_, rfl⟩
      have hql : q.length = 8 := by rw [hq]; have := HNW.out; simp; omega
      have hs := wsl_subN HNW.out (HV.out wr HBW.out) (i := i) (k := 8) (by omega)
      rw [← hq] at hs
      have HQL := hide hs.lt
      have hnews := (hs.below ((Below.refl _ _).alloc (Nat.le_refl _) (.cells #[] 30))).news
      have hone := B.u64V_oneCell q
      have hmade : (wr.alloc (.cells #[] 30)).ownsRow wr.heap.size 30 1 (.slice (some ⟨wr.heap.size, 0, none⟩) 0 0) 0 [] := World.ownsRow_made wr #[] 0 (Nat.le_refl _) (by unfold maxLen; omega) rfl
      have hnl : (q.map B.u64V).length = (i + 8 - i) * 1 := by simp [hql]
      have HQ := hide hql
      have hkc1 : ¬ (vcap : Int) = (i : Int) := by omega
      have hkc2 : ¬ vcap = i := by omega
      clear hs hq hql
      go_wp2_with (at_builtin; go_must (refine wpList_append_own _ rfl (.tmp 50) (.tmp 56) 55 rfl wr.heap.size 30 i0 (.int .u64 0) 1 8 Tryd.underlying55 hi hz0 hz1 hz2 rfl (by decide) _ _ _ rfl hmade ⟨vb, voff + i, none⟩ (i + 8 - i) (vcap - i) (q.map B.u64V) rfl hnl hnews hone (by unfold maxLen; omega) (by omega) (by simp) ?_))
      intro v1 y1 hown hg1 _
      have hb1 : Below w.heap.size w y1 := HBW.out.trans (((Below.refl wr.heap.size wr).alloc (Nat.le_refl _) _).grown hg1 (by simp) (by simp [Value.ownBlock]) |>.mono HBW.out.size)
      have hs1 := own_wsl (l := q) (by simpa [HQ.out] using hown) HQL.out
      have B1 := hide hb1
      have W1 := hide hs1
      clear hnews hone hmade hnl hown hg1 hb1 hs1
      have HCW : Hid (B.cwErr 512 q = 0) := hide (by unfold B.cwErr; rw [if_neg (by rw [HQ.out]; decide), if_neg (by omega)])
      have HBR := hide (brought_any y1 i 8 512 v1 q (HT.out _ B1.out) (HD.out _ B1.out) W1.out (by omega) (by have := HLN.out; omega) HCW.out (by omega) (by omega) (by omega) (by omega))
      go_wp2_with (go_at_call 18; refine HBR.out.mono ?_; rintro e y2 ⟨v2, rfl, hw2, hb2⟩; obtain ⟨gb, goff, gcap, hgv, ⟨gc1, gc2⟩, hgc⟩ := wsl_cell hw2 (by rw [HQ.out]; omega); rw [HQ.out] at hgv gc1; subst hgv; have HGC := hide hgc; have W2 := hide (W1.out.below hb2); have B2 := hide (B1.out.trans (hb2.mono B1.out.size)); clear hw2 hb2 hgc HBR)
      obtain ⟨pb, poff, pcap, hpv, ⟨pc1, pc2⟩, hpc⟩ := wsl_cell W2.out (by rw [HQ.out]; omega)
      rw [HQ.out] at hpv pc1
      subst hpv
      have HPC := hide hpc
      clear hpc W1 W2 B1
      go_loopw [11] (fun x wr => ∃ j : Nat, j ≤ 8 ∧ x = .int .i64 (j : Int) ∧ wr.heap = y2.heap ∧ Below y2.heap.size y2 wr) (fun x _ => 8 - (intOf x).toNat)
      case atStart => exact ⟨0, Nat.zero_le _, rfl, rfl, Below.refl _ _⟩
      case round =>
        obtain ⟨j, hj, rfl, hh, hbj⟩ := hrel
        have HH := hide hh
        have HBJ := hide hbj
        clear hh hbj
        by_cases hjl : j < 8
        · have gq1 : wr.cell? ⟨gb, goff + j, none⟩ = some (.int .u64 (q.getD j 0 : Nat)) := (World.cell?_of_block (by rw [HH.out])).trans (HGC.out j (by rw [HQ.out]; exact hjl))
          have pq1 : wr.cell? ⟨pb, poff + j, none⟩ = some (.int .u64 (q.getD j 0 : Nat)) := (World.cell?_of_block (by rw [HH.out])).trans (HPC.out j (by rw [HQ.out]; exact hjl))
          have hji : (j : Int) < (8 : Int) := by omega
          generalize q.getD j 0 = xx at *
          have HDN : Hid (∀ m, (wr.drewN m).heap = y2.heap ∧ Below y2.heap.size y2 (wr.drewN m)) := hide fun m => ⟨HH.out, belDrews HBJ.out m⟩
          go_wp2_with fail
          go_quiet (fail)
          go_wp2_with fail
          go_roundw
          case rel => exact ⟨j + 1, by omega, by go_num, (HDN.out _).1, (HDN.out _).2⟩
          case measure => simp [intOf]; omega
        · have ej : j = 8 := by omega
          subst ej
          go_wp2_with fail
          go_roundw
          case rel => exact ⟨i + 8, by omega, by go_num, B2.out.trans (HBJ.out.mono B2.out.size)⟩
          case measure => simp [intOf]; omega
    · obtain ⟨k, hk9⟩ : ∃ k, nw - i = k := ⟨_, rfl⟩
      have hkI : (nw : Int) - (i : Int) = (k : Int) := by omega
      have hk1 : 1 ≤ k := by omega
      have hk8 : k ≤ 8 := by omega
      have hks : i + k = nw := by omega
      have hnik : nw - i = k := by omega
      clear hk hk9
      obtain ⟨m, hm⟩ : ∃ m, n - 64 * i = m := ⟨_, rfl⟩
      have hmI : (n : Int) - 64 * (i : Int) = (m : Int) := by omega
      have hm1 : 1 ≤ m := by omega
      have hm2 : m ≤ 64 * k := by omega
      have hm3 : 64 * k < m + 64 := by omega
      have hm4 : ¬ (64 * (k : Int) < (m : Int)) := by omega
      clear hm
      obtain ⟨q, hq⟩ : ∃ q, q = (l.drop i).take k := ⟨_, rfl⟩
      have hql : q.length = k := by rw [hq]; have := HNW.out; simp; omega
      have hs := wsl_subN HNW.out (HV.out wr HBW.out) (i := i) (k := k) (by omega)
      rw [← hq] at hs
      have HQL := hide hs.lt
      have hnews := (hs.below ((Below.refl _ _).alloc (Nat.le_refl _) (.cells #[] 30))).news
      have hone := B.u64V_oneCell q
      have hmade : (wr.alloc (.cells #[] 30)).ownsRow wr.heap.size 30 1 (.slice (some ⟨wr.heap.size, 0, none⟩) 0 0) 0 [] := World.ownsRow_made wr #[] 0 (Nat.le_refl _) (by unfold maxLen; omega) rfl
      have hnl : (q.map B.u64V).length = (i + k - i) * 1 := by simp [hql]
      have HQ := hide hql
      have hkc1 : ¬ (vcap : Int) = (i : Int) := by omega
      have hkc2 : ¬ vcap = i := by omega
      clear hs hq hql
      by_cases hr0 : m % 64 = 0
      · have hr1 : (m : Int) % 64 = 0 := by omega
        go_wp2_with (at_builtin; go_must (refine wpList_append_own _ rfl (.tmp 50) (.tmp 56) 55 rfl wr.heap.size 30 i0 (.int .u64 0) 1 8 Tryd.underlying55 hi hz0 hz1 hz2 rfl (by decide) _ _ _ rfl hmade ⟨vb, voff + i, none⟩ (i + k - i) (vcap - i) (q.map B.u64V) rfl hnl hnews hone (by unfold maxLen; omega) (by omega) (by simp) ?_))
        intro v1 y1 hown hg1 _
        have hb1 : Below w.heap.size w y1 := HBW.out.trans (((Below.refl wr.heap.size wr).alloc (Nat.le_refl _) _).grown hg1 (by simp) (by simp [Value.ownBlock]) |>.mono HBW.out.size)
        have hs1 := own_wsl (l := q) (by simpa [HQ.out, hnik] using hown) HQL.out
        have B1 := hide hb1
        have W1 := hide hs1
        clear hnews hone hmade hnl hown hg1 hb1 hs1
        have HCW : Hid (B.cwErr m q = 0) := hide (by unfold B.cwErr B.nW; rw [if_neg (by rw [HQ.out]; omega), if_neg (by omega)])
        have HBR := hide (brought_any y1 i k m v1 q (HT.out _ B1.out) (HD.out _ B1.out) W1.out (by omega) (by have := HLN.out; omega) HCW.out (by omega) (by omega) (by omega) (by omega))
        go_wp2_with (go_at_call 18; refine HBR.out.mono ?_; rintro e y2 ⟨v2, rfl, hw2, hb2⟩; obtain ⟨gb, goff, gcap, hgv, ⟨gc1, gc2⟩, hgc⟩ := wsl_cell hw2 (by rw [HQ.out]; omega); rw [HQ.out] at hgv gc1; subst hgv; have HGC := hide hgc; have W2 := hide (W1.out.below hb2); have B2 := hide (B1.out.trans (hb2.mono B1.out.size)); clear hw2 hb2 hgc HBR)
        obtain ⟨pb, poff, pcap, hpv, ⟨pc1, pc2⟩, hpc⟩ := wsl_cell W2.out (by rw [HQ.out]; omega)
        rw [HQ.out] at hpv pc1
        subst hpv
        have HPC := hide hpc
        clear hpc W1 W2 B1
        go_loopw [11] (fun x wr => ∃ j : Nat, j ≤ k ∧ x = .int .i64 (j : Int) ∧ wr.heap = y2.heap ∧ Below y2.heap.size y2 wr) (fun x _ => k - (intOf x).toNat)
        case atStart => exact ⟨0, Nat.zero_le _, rfl, rfl, Below.refl _ _⟩
        case round =>
          obtain ⟨j, hj, rfl, hh, hbj⟩ := hrel
          have HH := hide hh
          have HBJ := hide hbj
          clear hh hbj
          by_cases hjl : j < k
          · have gq1 : wr.cell? ⟨gb, goff + j, none⟩ = some (.int .u64 (q.getD j 0 : Nat)) := (World.cell?_of_block (by rw [HH.out])).trans (HGC.out j (by rw [HQ.out]; exact hjl))
            have pq1 : wr.cell? ⟨pb, poff + j, none⟩ = some (.int .u64 (q.getD j 0 : Nat)) := (World.cell?_of_block (by rw [HH.out])).trans (HPC.out j (by rw [HQ.out]; exact hjl))
            have hji : (j : Int) < (k : Int) := by omega
            generalize q.getD j 0 = xx at *
            have HDN : Hid (∀ m, (wr.drewN m).heap = y2.heap ∧ Below y2.heap.size y2 (wr.drewN m)) := hide fun m => ⟨HH.out, belDrews HBJ.out m⟩
            go_wp2_with fail
            go_quiet (fail)
            go_wp2_with fail
            go_roundw
            case rel => exact ⟨j + 1, by omega, by go_num, (HDN.out _).1, (HDN.out _).2⟩
            case measure => simp [intOf]; omega
          · have ej : j = k := by omega
            subst ej
            go_wp2_with fail
            go_roundw
            case rel => exact ⟨i + 8, by omega, by go_num, B2.out.trans (HBJ.out.mono B2.out.size)⟩
            case measure => simp [intOf]; omega
      · obtain ⟨r, hr⟩ : ∃ r, m % 64 = r := ⟨_, rfl⟩
        have hrI : (m : Int) % 64 = (r : Int) := by omega
        have hr2 : ¬ (r : Int) = 0 := by omega
        have hr3 : r < 64 := by omega
        go_wp2_with (at_builtin; go_must (refine wpList_append_own _ rfl (.tmp 50) (.tmp 56) 55 rfl wr.heap.size 30 i0 (.int .u64 0) 1 8 Tryd.underlying55 hi hz0 hz1 hz2 rfl (by decide) _ _ _ rfl hmade ⟨vb, voff + i, none⟩ (i + k - i) (vcap - i) (q.map B.u64V) rfl hnl hnews hone (by unfold maxLen; omega) (by omega) (by simp) ?_))
        intro v1 y1 hown hg1 _
        have hb1 : Below w.heap.size w y1 := HBW.out.trans (((Below.refl wr.heap.size wr).alloc (Nat.le_refl _) _).grown hg1 (by simp) (by simp [Value.ownBlock]) |>.mono HBW.out.size)
        obtain ⟨g1, cap1, rfl, hgb, ⟨cc1, cc2⟩, hcell, hstore⟩ := own_wshape (q := q) HQ.out (by simpa [HQ.out, hnik] using hown) (by omega) HQL.out
        obtain ⟨kk, hkk⟩ : ∃ kk, k - 1 = kk := ⟨_, rfl⟩
        have hkm : (k : Int) - 1 = (kk : Int) := by omega
        have hkm2 : (kk : Int) < (k : Int) := by omega
        obtain ⟨d1, f1⟩ := hcell kk (by omega)
        have hx0 : q.getD kk 0 < 18446744073709551616 := HQL.out _ (by simp [List.getD, show kk < q.length by rw [HQ.out]; omega])
        obtain ⟨P, hP⟩ : ∃ P : Nat, 2 ^ r = P := ⟨_, rfl⟩
        have hP1 : 1 ≤ P := by rw [← hP]; exact Nat.two_pow_pos _
        have hP2 : P ≤ 9223372036854775808 := by
          have h9 : 2 ^ r ≤ 2 ^ 63 := Nat.pow_le_pow_right (by omega) (show r ≤ 63 by omega)
          rw [hP] at h9
          omega
        have hPI : (2 : Int) ^ r = (P : Int) := by rw [← hP, Int.natCast_pow]; rfl
        have hpi : IntKind.u64.wrap ((2 : Int) ^ r) = (P : Int) := by
          rw [hPI]
          simp only [IntKind.wrap, IntKind.bits, IntKind.signed]
          simp; omega
        have hmod : q.getD kk 0 % P < P := Nat.mod_lt _ (by omega)
        have hand : bits .and .u64 ((q.getD kk 0 : Nat) : Int) ((P : Int) - 1) = ((q.getD kk 0 % P : Nat) : Int) := by
          rw [show (P : Int) - 1 = ((P - 1 : Nat) : Int) by omega]
          refine (u64_and_nat _ _ hx0 (by omega)).trans ?_
          rw [← hP, Nat.and_two_pow_sub_one_eq_mod]
        have hpw : IntKind.u64.wrap ((P : Int) - 1) = (P : Int) - 1 := by
          simp only [IntKind.wrap, IntKind.bits, IntKind.signed]
          simp; omega
        have HST := hide (hstore kk (q.getD kk 0 % P) (by omega))
        have HCW : Hid (B.cwErr m (q.set kk (q.getD kk 0 % P)) = 0) := hide (by
          have hq := HQ.out
          unfold B.cwErr B.nW
          rw [List.length_set, if_neg (by omega)]
          have e : (q.set kk (q.getD kk 0 % P)).getD (q.length - 1) 0 = q.getD kk 0 % P := by
            rw [show q.length - 1 = kk by omega]
            simp [List.getD, show kk < q.length by omega]
          rw [e, hr, hP, if_neg]
          rintro ⟨-, h9⟩
          exact h9 (Nat.div_eq_of_lt hmod))
        have HQ2 : Hid ((q.set kk (q.getD kk 0 % P)).length = k) := hide (by rw [List.length_set]; exact HQ.out)
        have B1 := hide hb1
        clear hnews hone hmade hnl hown hg1 hcell hstore hkk hmod hb1 HQL HQ
        generalize q.set kk (q.getD kk 0 % P) = q2 at *
        generalize q.getD kk 0 = x0 at *
        have hx1 : x0 % P < 18446744073709551616 := by have := Nat.mod_le x0 P; omega
        generalize hx2 : x0 % P = x1 at *
        clear hx2 hP hPI
        go_wp2_with fail
        have W1 := hide HST.out
        have HB9 : Hid (Below w.heap.size w (y1.setCell ⟨g1, kk, none⟩ (.int .u64 (x1 : Int)))) := hide (B1.out.setCell (Nat.le_trans HBW.out.size hgb) _)
        clear HST B1
        generalize y1.setCell ⟨g1, kk, none⟩ (.int .u64 (x1 : Int)) = y9 at *
        have HBR := hide (brought_any y9 i k m (.slice (some ⟨g1, 0, none⟩) k cap1) q2 (HT.out _ HB9.out) (HD.out _ HB9.out) W1.out (by omega) (by have := HLN.out; omega) HCW.out (by omega) (by omega) (by omega) (by omega))
        go_wp2_with (go_at_call 18; refine HBR.out.mono ?_; rintro e y2 ⟨v2, rfl, hw2, hb2⟩; obtain ⟨gb, goff, gcap, hgv, ⟨gc1, gc2⟩, hgc⟩ := wsl_cell hw2 (by rw [HQ2.out]; omega); rw [HQ2.out] at hgv gc1; subst hgv; have HGC := hide hgc; have W2 := hide (W1.out.below hb2); have B2 := hide (HB9.out.trans (hb2.mono HB9.out.size)); clear hw2 hb2 hgc HBR)
        have HPC := hide (wsl_cells0 HQ2.out (by omega) W2.out)
        clear W1 W2 HB9
        go_loopw [11] (fun x wr => ∃ j : Nat, j ≤ k ∧ x = .int .i64 (j : Int) ∧ wr.heap = y2.heap ∧ Below y2.heap.size y2 wr) (fun x _ => k - (intOf x).toNat)
        case atStart => exact ⟨0, Nat.zero_le _, rfl, rfl, Below.refl _ _⟩
        case round =>
          obtain ⟨j, hj, rfl, hh, hbj⟩ := hrel
          have HH := hide hh
          have HBJ := hide hbj
          clear hh hbj
          by_cases hjl : j < k
          · have gq1 : wr.cell? ⟨gb, goff + j, none⟩ = some (.int .u64 (q2.getD j 0 : Nat)) := (World.cell?_of_block (by rw [HH.out])).trans (HGC.out j (by rw [HQ2.out]; exact hjl))
            have pq1 : wr.cell? ⟨g1, j, none⟩ = some (.int .u64 (q2.getD j 0 : Nat)) := (World.cell?_of_block (by rw [HH.out])).trans (HPC.out j hjl)
            have hji : (j : Int) < (k : Int) := by omega
            generalize q2.getD j 0 = xx at *
            have HDN : Hid (∀ m, (wr.drewN m).heap = y2.heap ∧ Below y2.heap.size y2 (wr.drewN m)) := hide fun m => ⟨HH.out, belDrews HBJ.out m⟩
            go_wp2_with fail
            go_quiet (fail)
            go_wp2_with fail
            go_roundw
            case rel => exact ⟨j + 1, by omega, by go_num, (HDN.out _).1, (HDN.out _).2⟩
            case measure => simp [intOf]; omega
          · have ej : j = k := by omega
            subst ej
            go_wp2_with fail
            go_roundw
            case rel => exact ⟨i + 8, by omega, by go_num, B2.out.trans (HBJ.out.mono B2.out.size)⟩
            case measure => simp [intOf]; omega
end Go.Proofs.YtedhohamdbplhaaDoor
namespace Go.Proofs.YtedhohamdbplhaaDoor.B
open Go.ChangeShapes Go.WideShapes Go.ChangeAt Go.RowKit
set_option linter.unusedVariables false
set_option linter.unusedSimpArgs false
set_option maxRecDepth 20000

theorem own : ownKnob Tryd.prog.godebug = none := by kernel_rfl
theorem laidOut : laidOutB Tryd.prog = true := by kernel_rfl
theorem gTab : Tryd.prog.globalNamed "math/bits.deBruijn64tab" = some 1 := by kernel_rfl
theorem gTabty : (Tryd.prog.globals[1]?).map (·.type) = some 149 := by kernel_rfl
theorem cellsTab : Tryd.prog.cellsOf 149 = 64 := by kernel_rfl
theorem cells8 : Tryd.prog.cellsOf 5 = 1 := by kernel_rfl
theorem cellsInt : Tryd.prog.cellsOf 3 = 1 := by kernel_rfl
theorem cellsBool : Tryd.prog.cellsOf 4 = 1 := by kernel_rfl
theorem cellsWords : Tryd.prog.cellsOf 55 = 1 := by kernel_rfl
theorem cellsU64 : Tryd.prog.cellsOf 30 = 1 := by kernel_rfl
theorem bytesU64 : Tryd.prog.bytesOf 30 = 8 := by kernel_rfl
def listed : List (String × DataW Unit) := [("math/bits.deBruijn64tab", Rows.laid_math_bits_deBruijn64tab)]
theorem tab_of_laid {W : World} (h : laidMetH Tryd.prog listed W) : TabAt W := by
  have h' : laidMet Tryd.prog [("math/bits.deBruijn64tab", Lib.tabData .u8 (Lib.deBruijn64tab.map fun n : Nat => (n : Int)))] W := h
  have h1 := Lib.tabIs_of_head gTab gTabty Tryd.underlying149 Tryd.underlying5 cells8 cellsTab h'
  intro i hi
  have hl : Lib.deBruijn64tab.length = 64 := by decide
  rw [h1.cell gTab i (by simpa [hl] using hi)]
  simp [List.getD, hi, hl]
def relay (cs : List Value) : Obj → Obj
  | .cells _ t frozen => .cells cs.toArray t frozen
  | o => o
/-- a world for the witness: the settled one, with the table in it -/
def laidIn (w : World) : World := { w with heap := w.heap.modify 1 (relay (Lib.deBruijn64tab.map fun n : Nat => .int .u8 (n : Int))) }

def IsRow (k : IntKind) (w : World) (a : Option Addr) (len cap : Nat) (zs : List Int) : Prop :=
  (a = none ∧ len = 0 ∧ cap = 0 ∧ zs = []) ∨
  ∃ x, a = some x ∧ len ≤ cap ∧ cap ≤ maxLen ∧ zs.length = cap ∧ (∀ i, i < zs.length → w.cell? (x.add i) = some (.int k (zs.getD i 0))) ∧ ∀ n ∈ zs, (Lit.int k n).wf = true
theorem wsl_of_isrow {w : World} {a : Option Addr} {len cap : Nat} {zs : List Int} (h : IsRow .u64 w a len cap zs) : ∃ l : List Nat, l.length = len ∧ WSl w (.slice a len cap) l := by
  rcases h with ⟨rfl, rfl, rfl, rfl⟩ | ⟨x, rfl, hl, hm, hz, hcell, hwz⟩
  · exact ⟨[], rfl, none, 0, rfl, Nat.le_refl _, by unfold maxLen; omega, fun _ => rfl, by simp, by simp⟩
  · have hlen : ((zs.take len).map Int.toNat).length = len := by simp; omega
    refine ⟨(zs.take len).map Int.toNat, hlen, _, cap, by rw [hlen], by omega, hm, by simp, ?_, ?_⟩
    · intro b hb
      obtain ⟨n, hn, rfl⟩ := List.mem_map.1 hb
      have := bounds_u64 (hwz n (List.mem_of_mem_take hn))
      omega
    · intro hp
      obtain ⟨b, off, rfl, hc⟩ := ints_at hcell (by omega)
      refine ⟨b, off, rfl, fun i hi => ?_⟩
      rw [hc i (by omega)]
      have hi' : i < zs.length := by omega
      have hb := bounds_u64 (hwz zs[i] (List.getElem_mem hi'))
      have hi2 : i < len := by omega
      have e2 : ((zs.take len).map Int.toNat).getD i 0 = zs[i].toNat := by
        simp [List.getD, hi', hi2]
      have e3 : zs.getD i 0 = zs[i] := by simp [List.getD, hi']
      rw [e2, e3, Int.toNat_of_nonneg hb.1]

/-- a list of words, of which the weights are known -/
theorem open_field {H : Type} {enc : TypeId × Value → H} {W : World} {n : Nat} {v : Value} {y : DataW H × List MemPlace} (h : DataW.trod enc Tryd.prog W 0 (fun _ => true) true n 55 [v] = some y) (hw : ∀ k ∈ y.1.weights Tryd.prog 55, k ≤ reachBytes) : ∃ l : List Nat, WSl W v l ∧ l.length ≤ 17592186044416 := by
  rcases open_ints Tryd.underlying55 Tryd.underlying30 (by kernel_rfl) h with ⟨hcs, hy⟩ | ⟨x, len, cap, zs, hcs, _, hl, hm, hz, hx, hcell, hwz⟩
  · simp at hcs
    subst hcs
    exact ⟨[], ⟨none, 0, rfl, Nat.le_refl _, by unfold maxLen; omega, fun _ => rfl, by simp, by simp⟩, Nat.zero_le _⟩
  · simp at hcs
    subst hcs
    simp only [if_true] at hz
    obtain ⟨l, hll, hb⟩ := wsl_of_isrow (.inr ⟨_, rfl, hl, hm, hz, hcell, hwz⟩)
    subst hx
    refine ⟨l, hb, ?_⟩
    have := hw ((zs.length) * 8) (by
      simp only [DataW.weights]
      rw [Tryd.underlying55]
      simp only [lits, List.length_map, List.length_take, List.length_drop, bytesU64]
      rw [show min len zs.length + (zs.length - len) = zs.length by omega]
      exact List.mem_cons_self)
    unfold reachBytes at this
    omega
theorem open_words {H : Type} {enc : TypeId × Value → H} {W : World} {base : Nat} {v : Value} {d : DataW H} {p : List MemPlace} {ts : List TypeId} {ds : List (DataW H)} (j : Nat) (hts : ts[j]? = some 55) (hds : ds[j]? = some d)
    (hsz : (DataW.weightsEach Tryd.prog ts ds).all (· ≤ reachBytes) = true) (hok : Value.okWide Tryd.prog W .any base 55 v) (h1 : DataW.Trod enc Tryd.prog W 0 (fun _ => true) true 55 v d p) : ∃ l : List Nat, WSl W v l ∧ l.length ≤ 17592186044416 := by
  obtain ⟨a1, len1, cap1, rfl⟩ := okWide_slice Tryd.underlying55 hok
  obtain ⟨fuel, hf⟩ := h1
  refine open_field hf fun k hk => ?_
  have := List.all_eq_true.1 hsz k (DataW.weights_mem_each hts hds k hk)
  simpa using this
theorem trod_place_lt {H : Type} {enc : TypeId × Value → H} {W : World} {t : TypeId} {v : Value} {d : DataW H} {p : List MemPlace} (h1 : DataW.Trod enc Tryd.prog W 0 (fun _ => true) true t v d p) : ∀ x ∈ p, x.block < W.heap.size := by
  obtain ⟨m, hm⟩ := h1; exact DataW.trod_lt m _ _ _ hm
theorem words_again {H : Type} {enc : TypeId × Value → H} {W W' : World} {v : Value} {d : DataW H} {p : List MemPlace} (h1 : DataW.Trod enc Tryd.prog W 0 (fun _ => true) true 55 v d p) (bel : Below W.heap.size W W') :
    DataW.Trod enc Tryd.prog W' 0 (fun b => decide (b < W.heap.size)) true 55 v d p := Below.trod laidOut (by kernel_rfl) (of_decide_eq_true (by kernel_rfl)) h1 bel (trod_place_lt h1)
theorem weights_all {H : Type} {P : Program} {e : TypeId} : ∀ {l : List (DataW H)} {d : DataW H}, d ∈ l → ∀ n ∈ d.weights P e, n ∈ DataW.weightsAll P e l
  | [], _, h => by cases h
  | x :: r, d, h => fun n hn => by
    simp only [DataW.weightsAll, List.mem_append]
    rcases List.mem_cons.1 h with rfl | h
    · exact .inl hn
    · exact .inr (weights_all h n hn)

end Go.Proofs.YtedhohamdbplhaaDoor.B
namespace Go.Proofs.YtedhohamdbplhaaDoor
open Go.ChangeShapes Go.WideShapes Go.ChangeAt Go.RowKit
set_option linter.unusedVariables false
set_option linter.unusedSimpArgs false
set_option maxRecDepth 20000

theorem carryLaw (w : World) (n : Int) (hn : (Lit.int .i64 n).wf = true) (v : Value) (l : List Nat) (hT : BTab w) (hD : B.TabAt w) (hv : B.WSl w v l) (hl : l.length ≤ 17592186044416) :
    Calls Tryd.prog 4 #[.int .i64 n, v] w fun e w' => e = .returned (.bool true) ∧ Below w.heap.size w w' := by
  have hb := bounds_i64 hn
  by_cases h : 1 ≤ n ∧ n ≤ 4096 ∧ (l.length : Int) = (n + 63) / 64
  · obtain ⟨m, rfl⟩ : ∃ m : Nat, n = (m : Int) := ⟨n.toNat, by omega⟩
    exact carry_yes w m v l hT hD hv (by omega) (by omega) (by omega)
  · exact carry_no w n v l hT hv h hl (by omega)
namespace wireCarry
def listed : List (String × DataW Unit) := [("math/bits.deBruijn64tab", Rows.laid_math_bits_deBruijn64tab), ("replica/wire.bounds", Rows.laid_replica_wire_bounds)]
theorem stabs_of_laid {W : World} (h : laidMetH Tryd.prog listed W) : BTab W ∧ B.TabAt W := by
  have h' : laidMet Tryd.prog [("math/bits.deBruijn64tab", Lib.tabData .u8 (Lib.deBruijn64tab.map fun n : Nat => (n : Int))), ("replica/wire.bounds", (.agg (bndL.map recD) : DataW Unit))] W := h
  refine ⟨?_, ?_⟩
  · obtain ⟨ps, ⟨g', t', cs, fuel, p, q, hg', ht', hvar, hd, ⟨g3, t3, cs3, fuel3, p3, q3, hg3, ht3, hvar3, hd3, _⟩, _⟩, _⟩ := h'
    obtain rfl := Option.some.inj (gB.symm.trans hg3)
    obtain rfl := Option.some.inj (gBty.symm.trans ht3)
    have hc := cells_of_recs rfl hd3
    intro n hn
    obtain ⟨c0, c1, c2⟩ := hc n hn
    have k := fun j => World.var?_cell gB hvar3 j
    exact ⟨by rw [k, List.getElem?_toArray]; exact c0, by rw [k, List.getElem?_toArray]; exact c1, by rw [k, List.getElem?_toArray]; exact c2⟩
  · have h1 := Lib.tabIs_of_head B.gTab B.gTabty Tryd.underlying149 Tryd.underlying5 B.cells8 B.cellsTab h'
    intro i hi
    have hl : Lib.deBruijn64tab.length = 64 := by decide
    rw [h1.cell B.gTab i (by simpa [hl] using hi)]
    simp [List.getD, hi, hl]
def laidIn (w : World) : World := { w with heap := ((w.heap.modify 0 (relay (bndL.flatMap fun z => [.int .i64 (z.1 : Int), .int .u64 (z.2.1 : Int), .int .u64 (z.2.2 : Int)]))).modify 1 (relay (Lib.deBruijn64tab.map fun n : Nat => .int .u8 (n : Int)))) }
end wireCarry
end Go.Proofs.YtedhohamdbplhaaDoor
