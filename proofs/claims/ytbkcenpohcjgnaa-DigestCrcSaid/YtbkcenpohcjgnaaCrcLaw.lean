import Derived.Test.YtbkcenpohcjgnaaRows
import Derived.Test.YtbkcenpohcjgnaaBytes
import Derived.SizedLaws
import Derived.WalkKit
import Derived.ProofKit
import Derived.OpenShut
import Derived.ShutString
import Derived.ChangeOld
import Derived.Below
namespace Go.Proofs.Ytbkcenpohcjgnaa.digestCrc
open Go.ChangeShapes Go.WideShapes Go.ChangeAt Go.RowKit
open Go.ChangeMaps (open_string shut_string)
set_option linter.unusedVariables false

open Num
theorem own : ownKnob Try.prog.godebug = none := by kernel_rfl
theorem laidOut : laidOutB Try.prog = true := by kernel_rfl

/-- WHAT THE WALK IS TOLD OF A SLICE OF INTEGERS THAT CAME IN: it is nil; or it leads to a row of 'cap' cells, the numbers 'zs' (the first 'len' are its elements, the rest its spare room), each fitting its kind. -/
def IsRow (k : IntKind) (w : World) (a : Option Addr) (len cap : Nat) (zs : List Int) : Prop :=
  (a = none ∧ len = 0 ∧ cap = 0 ∧ zs = []) ∨
  ∃ x, a = some x ∧ len ≤ cap ∧ cap ≤ maxLen ∧ zs.length = cap ∧ (∀ i, i < zs.length → w.cell? (x.add i) = some (.int k (zs.getD i 0))) ∧ ∀ n ∈ zs, (Lit.int k n).wf = true

/-- what came in, as bytes -/
theorem bsl_of_row {w : World} {a : Option Addr} {len cap : Nat} {zs : List Int} (h : IsRow .u8 w a len cap zs) : ∃ l : List Nat, l.length = len ∧ BSl w (.slice a len cap) l := by
  rcases h with ⟨rfl, rfl, rfl, rfl⟩ | ⟨x, rfl, hl, hm, hz, hcell, hwz⟩
  · exact ⟨[], rfl, none, 0, rfl, Nat.le_refl _, by unfold maxLen; omega, fun _ => rfl, by simp, by simp⟩
  · have hlen : ((zs.take len).map Int.toNat).length = len := by simp; omega
    refine ⟨(zs.take len).map Int.toNat, hlen, _, cap, by rw [hlen], by omega, hm, by simp, ?_, ?_⟩
    · intro b hb
      obtain ⟨n, hn, rfl⟩ := List.mem_map.1 hb
      have := bounds_u8 (hwz n (List.mem_of_mem_take hn))
      omega
    · intro hp
      obtain ⟨b, off, rfl, hc⟩ := ints_at hcell (by omega)
      refine ⟨b, off, rfl, fun i hi => ?_⟩
      rw [hc i (by omega)]
      have hi' : i < zs.length := by omega
      have hb := bounds_u8 (hwz zs[i] (List.getElem_mem hi'))
      have hi2 : i < len := by omega
      have e : (((zs.take len).map Int.toNat).getD i 0 : Nat) = zs[i].toNat := by simp [List.getD, hi', hi2]
      rw [e]
      have e2 : zs.getD i 0 = zs[i] := by simp [List.getD, hi']
      rw [e2, Int.toNat_of_nonneg hb.1]

set_option maxRecDepth 100000 in
set_option maxHeartbeats 1000000 in
theorem walkN (c : Nat) (hc : c < 4294967296) (v : Value) (l : List Nat) (w : World) (hv : BSl w v l) (hr : l.length ≤ 140737488351232) :
    Calls Try.prog 5 #[.int .u32 (c : Int), v] w fun e w' => e = .returned (.bool true) ∧ Below w.heap.size w w' := by
  have hv' := hv
  obtain ⟨a, cap, rfl, hl, hm, _, _, _⟩ := hv'
  unfold maxLen at hm
  have HV := hide hv
  clear hv
  go_enter Try.func5, Try.ntmps5
  go_wp2_with fail
  refine (roomy_any _ l _ (unhide HV) (by omega)).mono ?_
  rintro e w1 ⟨v1, rfl, ho, hb1⟩
  have hlen : (l ++ marks 150).length = l.length + 150 := by simp [marks_len]
  obtain ⟨g, cap1, rfl, hg, hg2, hlc, hcm⟩ := ho.shape (by omega)
  rw [hlen] at hlc
  unfold maxLen at hcm
  have HO := hide ho
  have HV1 := hide ((unhide HV).below hb1)
  have HB1 := hide hb1
  clear ho hb1
  rw [hlen]
  go_wp2_with fail
  refine (given_own g cap1 _ _ _ l (marks 150) _ (unhide HV1) (by rw [hlen]) (by rw [← hlen]; exact unhide HO)).mono ?_
  rintro e wx ⟨v2, rfl, hv2, rfl⟩
  have HV2 := hide hv2
  clear hv2
  go_wp2_with fail
  refine (crc_any _ l _ (unhide HV2)).mono ?_
  rintro e wy ⟨rfl, rfl⟩
  go_wp2_with fail
  refine (given_own g cap1 _ _ _ l (marks 150) _ (unhide HV1) (by rw [hlen]) (by rw [← hlen]; exact unhide HO)).mono ?_
  rintro e wz ⟨v3, rfl, hv3, rfl⟩
  have HV3 := hide hv3
  clear hv3
  go_wp2_with fail
  refine (crcMore_any c hc _ l _ (unhide HV3)).mono ?_
  rintro e wy ⟨rfl, rfl⟩
  clear HV2 HV3
  go_wp2_with fail
  refine (refCrc_any _ l _ (unhide HV1)).mono ?_
  rintro e wy ⟨rfl, rfl⟩
  go_wp2_with fail
  refine (refCrcMore_any c hc _ l _ (unhide HV1)).mono ?_
  rintro e wz ⟨rfl, rfl⟩
  go_wp2_with fail
  refine (untouched_any g cap1 _ l _ w.heap.size (unhide HV1) (by omega) (unhide HO)).mono ?_
  rintro e wy ⟨rfl, n, rfl⟩
  go_wp2_with fail
  have hle : l.length ≤ (l ++ marks 150).length := by omega
  refine (spoil_any g cap1 85 l.length (l ++ marks 150) w.heap.size _ (by omega) hle (by omega) hg (by exact unhide HO)).mono ?_
  rintro e w2 ⟨rfl, ho2, hb2, hs2⟩
  have HB2 : Hid (Below w.heap.size w w2) := (unhide HB1).trans ((below_drewN (Below.refl _ _) n).trans hb2)
  have hlen2 : (spoilL 85 l.length (l ++ marks 150)).length = l.length + 150 := by rw [spoilL_len, hlen]
  have HP := hide ((show Own w2 w.heap.size (.slice (some ⟨g, 0, none⟩) (spoilL 85 l.length (l ++ marks 150)).length cap1) (spoilL 85 l.length (l ++ marks 150)) by rw [spoilL_len]; exact ho2).part l.length (by omega))
  have hlq : ((spoilL 85 l.length (l ++ marks 150)).take l.length).length = l.length := by rw [List.length_take]; omega
  have hsz2 : w.heap.size ≤ w2.heap.size := HB2.out.size
  generalize (spoilL 85 l.length (l ++ marks 150)).take l.length = q at *
  have HLQ := hide hlq
  clear ho2 hb2 hs2 hlen2 hlq HO HV1 HB1 HV
  go_wp2_with fail
  refine (copied_any _ q _ (unhide HP) (by rw [unhide HLQ]; omega)).mono ?_
  rintro e w3 ⟨v4, rfl, ho4, hb4⟩
  have HQ := hide ho4.bsl
  have HP3 := hide ((unhide HP).below hb4)
  have HB3 : Hid (Below w.heap.size w w3) := HB2.out.trans (hb4.mono hsz2)
  clear ho4 hb4 HP HB2
  go_wp2_with fail
  refine (crc_any _ q _ (unhide HP3)).mono ?_
  rintro e wy ⟨rfl, rfl⟩
  go_wp2_with fail
  refine (crcMore_any c hc _ q _ (unhide HP3)).mono ?_
  rintro e wz ⟨rfl, rfl⟩
  go_wp2_with fail
  refine (refCrc_any _ q _ (unhide HQ)).mono ?_
  rintro e wy ⟨rfl, rfl⟩
  go_wp2_with fail
  refine (refCrcMore_any c hc _ q _ (unhide HQ)).mono ?_
  rintro e wz ⟨rfl, rfl⟩
  go_wp2_with fail
  go_ret
  exact ⟨rfl, HB3.out⟩

theorem walk (a0 : Int) (a1 : Option Addr) (len1 cap1 : Nat) (z1 : List Int) (w : World) (w0 : (Lit.int .u32 a0).wf = true) (w1 : IsRow .u8 w a1 len1 cap1 z1) (hr : len1 ≤ 140737488351232) :
    Calls Try.prog 5 #[.int .u32 a0, .slice a1 len1 cap1] w fun e w' => e = .returned (.bool true) ∧ Below w.heap.size w w' := by
  have h0 := bounds_u32 w0
  obtain ⟨c, rfl⟩ := Int.eq_ofNat_of_zero_le h0.1
  obtain ⟨l, rfl, hb⟩ := bsl_of_row w1
  exact walkN c (by omega) _ l w hb hr

/-! ### THE ROW's STEP: WRITTEN OUT: LEAVE IT -/
set_option maxRecDepth 100000 in
theorem lifted (os : Os) (started : os.Started) (H : Type) (enc : TypeId × Value → H) :
    ReturnsInHanded {} Try.checked os 5 .any (Rows.digestCrcSpec.pre6 enc Try.prog Try.f5 Rows.digestCrcRow.domain false) (Rows.digestCrcSpec.post enc Try.prog Try.f5 false true false false) := by
  refine returnsInHanded_of_change_sized (C := Try.checked) own started (by kernel_rfl) Try.func5
    (ChangeSpec.witness6 (enc := enc) (C := Try.checked) false ⟨#[], #[.int .u32 0, .slice none 0 0], []⟩ 8 (by kernel_rfl) (by kernel_rfl) (by kernel_rfl) (by kernel_rfl)) ?_
  intro W base args ds gs before hval0 hW hcnd hsz0 _
  have hsz : (DataW.weightsEach Try.prog (Try.f5.params.toList ++ Rows.digestCrcSpec.plain.varTypes Try.prog) (ds ++ gs)).all (· ≤ reachBytes) = true := hsz0
  have hval : ∀ (j : Nat) t v, Try.f5.params[j]? = some t → args[j]? = some v → Value.okWide Try.prog W .any base t v := hval0
  have hW' := hW
  obtain ⟨p, q, hA0, hV, rfl, hfz, hnd⟩ := hW
  have hA : DataW.TrodAll enc Try.prog W 0 (fun _ => true) true Try.f5.params.toList args.toList ds p := hA0
  rw [Try.params5] at hA hval hsz
  obtain ⟨v0, vs0, d0, ds0, p0, q0, hargs, rfl, rfl, h0, r0⟩ := trodAll_cons hA
  obtain ⟨v1, vs1, d1, ds1, p1, q1, rfl, rfl, rfl, h1, r1⟩ := trodAll_cons r0
  obtain ⟨rfl, rfl, rfl⟩ := trodAll_nil r1
  obtain rfl : args = #[v0, v1] := by cases args; simp_all
  obtain ⟨rfl, rfl⟩ := trodVars_none hV
  obtain ⟨a0, rfl, rfl, rfl, w0⟩ := open_int Try.underlying31 (hval 0 31 v0 rfl rfl) h0
  obtain ⟨a1, len1, cap1, rfl⟩ := okWide_slice Try.underlying32 (hval 1 32 v1 rfl rfl)
  have k1 := h1
  have lt1 : ∀ x ∈ p1, x.block < W.heap.size := by obtain ⟨m, hm⟩ := k1; exact DataW.trod_lt m _ _ _ hm
  obtain ⟨z1, w1, hr1⟩ : ∃ zs, IsRow .u8 W a1 len1 cap1 zs ∧ len1 ≤ 140737488351232 := by
    obtain ⟨fuel, hf⟩ := h1
    rcases open_ints Try.underlying32 Try.underlying5 (by kernel_rfl) hf with ⟨hcs, _⟩ | ⟨x, l, c, zs, hcs, _, hl, hm, hz, hx, hcell, hwz⟩
    · simp [Value.cells] at hcs
      obtain ⟨rfl, rfl, rfl⟩ := hcs
      exact ⟨[], .inl ⟨rfl, rfl, rfl, rfl⟩, by omega⟩
    · simp [Value.cells] at hcs
      obtain ⟨rfl, rfl, rfl⟩ := hcs
      simp only [Prod.mk.injEq] at hx
      obtain ⟨rfl, hp⟩ := hx
      have hw := sized_slice hsz (j := 1) (t := 32) (e := 5) rfl rfl Try.underlying32
      rw [show Try.prog.bytesOf 5 = 1 from by kernel_rfl] at hw
      simp only [lits, List.length_map, List.length_take, List.length_drop, reachBytes] at hw
      simp only [if_true] at hz
      exact ⟨zs, .inr ⟨_, rfl, hl, hm, hz, hcell, hwz⟩, by omega⟩
  clear hA0 hval0
  refine (walk a0 a1 len1 cap1 z1 W w0 w1 hr1).mono fun e W' ⟨he, bel⟩ => ?_
  subst he
  exact ⟨_, rfl, _, _, _, [], _, [], hW', trodAll_mk1 (shut_bool Try.underlying4 _), (trodAll_cons_mk (shut_int Try.underlying31 w0) (trodAll_cons_mk (Below.trod laidOut (by kernel_rfl) (of_decide_eq_true (by kernel_rfl)) k1 bel lt1) trodAll_mk0)), rfl, bel.frame _, fun h => by cases h⟩

theorem over : Rows.digestCrcRow.holds Try.pinned (OpenSpec.ofChange Rows.digestCrcSpec) :=
  OpenClaim.holds_of_wide 5 Try.f5 rfl rfl rfl rfl rfl rfl rfl ⟨rfl, rfl, rfl, rfl, rfl⟩ rfl rfl rfl rfl rfl (by kernel_rfl) Try.func5 (by kernel_rfl)
    (of_decide_eq_true (by kernel_rfl)) (by unfold Func.isWrapper; first | (rw [if_pos (by decide +kernel)]; kernel_rfl) | (rw [if_neg (by decide +kernel)]; exact ⟨rfl, rfl⟩))
    (fun os started H enc _ => lifted os started H enc)

/-- ████ THE STATEMENT ████ -/
theorem proved : Rows.DigestCrcSaid := over
end Go.Proofs.Ytbkcenpohcjgnaa.digestCrc
namespace Go.Proofs.Ytbkcenpohcjgnaa
theorem digestCrc_holds : Rows.DigestCrcSaid := digestCrc.proved
#print axioms digestCrc_holds
end Go.Proofs.Ytbkcenpohcjgnaa
