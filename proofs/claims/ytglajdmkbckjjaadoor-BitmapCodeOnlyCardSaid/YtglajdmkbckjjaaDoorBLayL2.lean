import Derived.Test.YtglajdmkbckjjaaDoorBLayL
namespace Go.Proofs.YtglajdmkbckjjaaDoor
open Go.RowKit Go.Shelf
set_option linter.unusedVariables false
set_option linter.unusedSimpArgs false
set_option maxRecDepth 20000

set_option maxHeartbeats 2000000 in
theorem lay_law {w : World} {v ov : Value} {l : List Nat} {os : List OpV} (n : Nat) (h1 : 1 ≤ n) (h2 : n ≤ 65536) (hv : WSl w v l) (hr : l.length ≤ 17592186044416) (he : cwErr n l = 0) (ho : OSl w ov os) :
    Calls Tryd.prog 10 #[.int .i64 (n : Int), v, ov] w fun e w' => ∃ L, e = .returned (PB L) ∧ BNewAt w w' L n (foldO n (valW l) os) := by
  have HCP := hide (copied_any hv hr)
  have HE := hide he
  obtain ⟨va, vcap, rfl, q1, q2, q3, q4, q5⟩ := hv
  clear q1 q2 q3 q4 q5 he
  have HO := hide ho
  obtain ⟨oa, ocap, rfl, p1, p2, p4, p5⟩ := ho
  unfold maxLen at p2
  have HOK : Hid (∀ k (hk : k < os.length), OpOk w os[k]) := hide fun k hk => p4 _ (List.getElem_mem hk)
  have HC : Hid (0 < os.length → _) := hide p5
  have H0 : Hid (foldO n (valW l) (os.take 0) = valW l) := hide rfl
  have HF : Hid (foldO n (valW l) (os.take os.length) = foldO n (valW l) os) := hide (by rw [List.take_length])
  clear p4 p5
  have hpe := ptrEqNil
  generalize l.length = llen at *
  obtain ⟨len, hlen⟩ : ∃ len, os.length = len := ⟨_, rfl⟩
  have HLEN := hide hlen
  rw [hlen] at p1 HF
  rw [hlen]
  clear hlen
  unfold PB
  go_enter Tryd.func10, Tryd.ntmps10
  go_wp2_with (first
    | (go_at_call 16; refine HCP.out.mono ?_; rintro e w1 ⟨cv, rfl, hcp, hcw, hcb⟩; have HW := hide hcw; have HB := hide hcb; clear hcp hcw hcb)
    | (go_at_call 35; refine (From_any n h1 h2 HW.out HE.out).mono ?_; rintro e w2 ⟨L, rfl, hnew⟩; have HNEW : Hid (BNewAt w w2 L n (valW l)) := hide ⟨hnew.1, HB.out.trans (hnew.2.1.mono HB.out.size), fun b hb => Nat.le_trans HB.out.size (hnew.2.2 b hb)⟩; clear hnew; unfold PB)
    | (go_at_call 13; refine (num_any _ _).mono ?_; rintro e w' ⟨rfl, rfl⟩))
  clear HCP HW HB
  go_loopw [9] (fun i wr => ∃ k : Nat, k ≤ len ∧ i = .int .i64 (k : Int) ∧ BNewAt w wr L n (foldO n (valW l) (os.take k))) (fun i _ => len - (intOf i).toNat)
  case atStart => exact ⟨0, Nat.zero_le _, rfl, by rw [H0.out]; exact HNEW.out⟩
  case round =>
    clear HNEW H0 hpe
    obtain ⟨k, hk, rfl, hI⟩ := hrel
    have HI := hide hI
    have hb := hI.2.1
    clear hI
    by_cases hlt : k < len
    · have hkl : k < os.length := by rw [HLEN.out]; exact hlt
      obtain ⟨b, off, rfl, hc⟩ := HC.out (by omega)
      obtain ⟨r0, r1, r2, r3, r4, r5, r6, r7⟩ := hc k hkl
      replace r0 := cell_below hb r0
      replace r1 := cell_below hb r1
      replace r2 := cell_below hb r2
      replace r3 := cell_below hb r3
      replace r4 := cell_below hb r4
      replace r5 := cell_below hb r5
      replace r6 := cell_below hb r6
      replace r7 := cell_below hb r7
      have HST := hide (foldO_take (n := n) (B := valW l) hkl)
      have hok := HOK.out k hkl
      have HOKW := hide hok.w1
      have HOKL := hide hok.w2
      obtain ⟨wa, wcap, ewv, -⟩ := hok.w1
      obtain ⟨ba, bcap, ebv, -⟩ := hok.b1
      obtain ⟨aa, acap, eav, -⟩ := hok.a1
      clear hc HC HOK HO hok HF
      generalize os[k] = o at *
      obtain ⟨kind, sec, A, B, wv, wl, bv, bl, av, al, again⟩ := o
      dsimp only at r0 r1 r2 r3 r4 r5 r6 r7 HOKW HOKL ewv ebv eav
      subst ewv ebv eav
      have HBW : Hid (BNewAt w (wr.alloc (.cells #[.int .i64 kind, .bool sec, .int .i64 A, .int .i64 B, .slice wa wl.length wcap, .slice ba bl.length bcap, .slice aa al.length acap, .bool again] 70)) L n (foldO n (valW l) (os.take k))) := hide (HI.out.below ((Below.refl _ _).alloc (Nat.le_refl _) _))
      have HOKW2 : Hid (WSl (wr.alloc (.cells #[.int .i64 kind, .bool sec, .int .i64 A, .int .i64 B, .slice wa wl.length wcap, .slice ba bl.length bcap, .slice aa al.length acap, .bool again] 70)) (.slice wa wl.length wcap) wl) := hide ((HOKW.out.below hb).below ((Below.refl _ _).alloc (Nat.le_refl _) _))
      clear HOKW hb
      generalize bl.length = blen at *
      generalize al.length = alen at *
      by_cases e1 : kind = 1
      · subst e1
        rw [show stepO n (foldO n (valW l) (os.take k)) ⟨1, sec, A, B, .slice wa wl.length wcap, wl, .slice ba blen bcap, bl, .slice aa alen acap, al, again⟩ = _ from rfl] at HST
        go_wp2_with (go_at_call 28; refine (Set_all HBW.out.1 A).mono ?_; rintro e w3 ⟨⟨x, y, rfl⟩, hr3, hc3⟩; have HR2 := hide hr3; have HC2 := hide hc3; clear hr3 hc3)
        go_roundw
        case rel => exact ⟨k + 1, by omega, by go_num, by rw [HST.out]; exact HBW.out.step HR2.out HC2.out⟩
        case measure => simp [intOf]; omega
      by_cases e2 : kind = 2
      · subst e2
        rw [show stepO n (foldO n (valW l) (os.take k)) ⟨2, sec, A, B, .slice wa wl.length wcap, wl, .slice ba blen bcap, bl, .slice aa alen acap, al, again⟩ = _ from rfl] at HST
        go_wp2_with (go_at_call 32; refine (Clear_all HBW.out.1 A).mono ?_; rintro e w3 ⟨⟨x, y, rfl⟩, hr3, hc3⟩; have HR2 := hide hr3; have HC2 := hide hc3; clear hr3 hc3)
        go_roundw
        case rel => exact ⟨k + 1, by omega, by go_num, by rw [HST.out]; exact HBW.out.step HR2.out HC2.out⟩
        case measure => simp [intOf]; omega
      by_cases e3 : kind = 3
      · subst e3
        rw [show stepO n (foldO n (valW l) (os.take k)) ⟨3, sec, A, B, .slice wa wl.length wcap, wl, .slice ba blen bcap, bl, .slice aa alen acap, al, again⟩ = _ from rfl] at HST
        go_wp2_with (go_at_call 36; refine (SetRange_all HBW.out.1 A B).mono ?_; rintro e w3 ⟨⟨x, y, rfl⟩, hr3, hc3⟩; have HR2 := hide hr3; have HC2 := hide hc3; clear hr3 hc3)
        go_roundw
        case rel => exact ⟨k + 1, by omega, by go_num, by rw [HST.out]; exact HBW.out.step HR2.out HC2.out⟩
        case measure => simp [intOf]; omega
      by_cases e4 : kind = 4
      · subst e4
        rw [show stepO n (foldO n (valW l) (os.take k)) ⟨4, sec, A, B, .slice wa wl.length wcap, wl, .slice ba blen bcap, bl, .slice aa alen acap, al, again⟩ = _ from rfl] at HST
        go_wp2_with (go_at_call 37; refine (ClearRange_all HBW.out.1 A B).mono ?_; rintro e w3 ⟨⟨x, y, rfl⟩, hr3, hc3⟩; have HR2 := hide hr3; have HC2 := hide hc3; clear hr3 hc3)
        go_roundw
        case rel => exact ⟨k + 1, by omega, by go_num, by rw [HST.out]; exact HBW.out.step HR2.out HC2.out⟩
        case measure => simp [intOf]; omega
      by_cases e5 : kind = 5
      · subst e5
        rw [show stepO n (foldO n (valW l) (os.take k)) ⟨5, sec, A, B, .slice wa wl.length wcap, wl, .slice ba blen bcap, bl, .slice aa alen acap, al, again⟩ = _ from rfl] at HST
        go_wp2_with (first
          | (go_at_call 16; refine (copied_any HOKW2.out (by first | exact HOKL.out | omega)).mono ?_; rintro e w3 ⟨cv, rfl, hcp, hcw, hcb⟩; have HCPV := hide hcp; have HCW := hide hcw; have HCB := hide hcb; clear hcp hcw hcb)
          | (go_at_call 15; refine (Merge_all (HBW.out.1.below HCB.out) HCW.out (fun g hg hu => by have h1 := (HCPV.out.new g hg).1; have h2 := HBW.out.1.uLt g hu; omega)).mono ?_; rintro e w4 ⟨⟨x, y, rfl⟩, hr3, hc3⟩; have HR2 := hide hr3; have HC2 := hide hc3; clear hr3 hc3))
        go_roundw
        case rel => exact ⟨k + 1, by omega, by go_num, by rw [HST.out]; exact (HBW.out.below HCB.out).step HR2.out HC2.out⟩
        case measure => simp [intOf]; omega
      have HN : Hid (foldO n (valW l) (os.take (k + 1)) = foldO n (valW l) (os.take k)) := hide (by rw [HST.out]; unfold stepO; simp only [e1, e2, e3, e4, e5, if_false])
      have b1 : (kind == 1) = false := by simpa using e1
      have b2 : (kind == 2) = false := by simpa using e2
      have b3 : (kind == 3) = false := by simpa using e3
      have b4 : (kind == 4) = false := by simpa using e4
      have b5 : (kind == 5) = false := by simpa using e5
      clear e1 e2 e3 e4 e5 HST
      go_wp2_with fail
      go_roundw
      case rel => exact ⟨k + 1, by omega, by go_num, by rw [HN.out]; exact HBW.out⟩
      case measure => simp [intOf]; omega
    · have ek : k = len := by omega
      have HK := hide ek
      clear ek HC HOK HO
      go_wp2_with fail
      go_ret
      refine ⟨L, rfl, ?_⟩
      have := HI.out
      rw [HK.out, HF.out] at this
      exact this
end Go.Proofs.YtglajdmkbckjjaaDoor
