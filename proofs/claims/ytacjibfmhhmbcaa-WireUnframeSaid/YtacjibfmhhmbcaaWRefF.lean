import Derived.Test.YtacjibfmhhmbcaaWEnc
namespace Go.Proofs.Ytacjibfmhhmbcaa
open Go.RowKit
open Num
set_option linter.unusedVariables false
set_option linter.unusedSimpArgs false

theorem Own.four {w : World} (x y z t : Nat) (hx : x < 256) (hy : y < 256) (hz : z < 256) (ht : t < 256) : Own (w.alloc (.cells #[.int .u8 (x : Int), .int .u8 (y : Int), .int .u8 (z : Int), .int .u8 (t : Int)] 5)) w.heap.size (.slice (some ⟨w.heap.size, 0, none⟩) 4 4) [x, y, z, t] :=
  ⟨World.ownsRow_lit w #[.int .u8 (x : Int), .int .u8 (y : Int), .int .u8 (z : Int), .int .u8 (t : Int)] 4 (Nat.le_refl _) (by unfold maxLen; omega) rfl, by simpa using ⟨hx, hy, hz, ht⟩⟩

set_option maxHeartbeats 2000000 in
theorem framed_any (w : World) (k a b c d s : Nat) (vp : Value) (p : List Nat) (hp : BSl w vp p) (hk : k < 256) (ha : a < 4294967296) (hb : b < 4294967296) (hc : c < 4294967296) (hd' : d < 4294967296) (hs : s < 4294967296) (hpl : p.length ≤ 140737488351232) :
    Calls Try.prog 21 #[frV k a b c d vp, .int .u32 (s : Int)] w fun e w' => ∃ v', e = .returned v' ∧ Own w' w.heap.size v' (frm k a b c d s p) ∧ Below w.heap.size w w' := by
  have hpb := hp.bytes
  obtain ⟨pa, pcap, rfl, hl1, hl2, hl3, _, _⟩ := id hp
  unfold maxLen at hl2
  unfold frV
  have HW := hide ((Below.refl w.heap.size w).alloc (Nat.le_refl _) (.cells #[.int .i64 (k : Int), .int .u32 (a : Int), .int .u32 (b : Int), .int .u32 (c : Int), .int .u32 (d : Int), .slice pa p.length pcap] 25))
  have HBX : Hid (∀ x, Below (w.heap.size + 1) (w.alloc (.cells #[.int .i64 (k : Int), .int .u32 (a : Int), .int .u32 (b : Int), .int .u32 (c : Int), .int .u32 (d : Int), .slice pa p.length pcap] 25)) x → _) := hide fun x hx => box6 hx
  have HPX : Hid (∀ x, Below (w.heap.size + 1) (w.alloc (.cells #[.int .i64 (k : Int), .int .u32 (a : Int), .int .u32 (b : Int), .int .u32 (c : Int), .int .u32 (d : Int), .slice pa p.length pcap] 25)) x → BSl x (.slice pa p.length pcap) p) := hide fun x hx => (hp.below HW.out).below (by simpa using hx)
  have HO0 : Hid (Own ((w.alloc (.cells #[.int .i64 (k : Int), .int .u32 (a : Int), .int .u32 (b : Int), .int .u32 (c : Int), .int .u32 (d : Int), .slice pa p.length pcap] 25)).alloc (.cells #[.int .u8 82, .int .u8 70, .int .u8 (k : Int), .int .u8 1] 5)) (w.heap.size + 1) (.slice (some ⟨w.heap.size + 1, 0, none⟩) 4 4) [82, 70, k, 1]) := hide (by have := Own.four (w := w.alloc (.cells #[.int .i64 (k : Int), .int .u32 (a : Int), .int .u32 (b : Int), .int .u32 (c : Int), .int .u32 (d : Int), .slice pa p.length pcap] 25)) 82 70 k 1 (by decide) (by decide) hk (by decide); simpa using this)
  have RB0 := hide ((Below.refl (w.heap.size + 1) (w.alloc (.cells #[.int .i64 (k : Int), .int .u32 (a : Int), .int .u32 (b : Int), .int .u32 (c : Int), .int .u32 (d : Int), .slice pa p.length pcap] 25))).alloc (by simp) (.cells #[.int .u8 82, .int .u8 70, .int .u8 (k : Int), .int .u8 1] 5))
  have HFIN : Hid (∀ x v, Own x (w.heap.size + 1) v ((((((([82, 70, k, 1] ++ be a 4) ++ be b 4) ++ be c 4) ++ be d 4) ++ be p.length 2) ++ be s 4) ++ p) → Below (w.heap.size + 1) (w.alloc (.cells #[.int .i64 (k : Int), .int .u32 (a : Int), .int .u32 (b : Int), .int .u32 (c : Int), .int .u32 (d : Int), .slice pa p.length pcap] 25)) x → Own x w.heap.size v (frm k a b c d s p) ∧ Below w.heap.size w x) := hide fun x v h1 h2 => ⟨h1.low (by omega), HW.out.trans (h2.mono (by omega))⟩
  have HPB := hide hpb
  clear hp hl3 hpb
  rename_i dead1 dead2
  clear dead1 dead2
  go_enter Try.func21, Try.ntmps21
  go_wp2_with (first
    | (go_at_call 29; refine (put_any _ (w.heap.size + 1) _ _ _ 4 (by omega) (by omega) HO0.out (by simp) (by simp)).mono ?_; rintro e w1 ⟨v1, rfl, o1, b1, s1⟩; have HO1 := hide o1; have RB1 := hide (RB0.out.trans b1); clear o1 b1 HO0; obtain ⟨a0, a1, a2, a3, a4, a5⟩ := HBX.out w1 RB1.out)
    | (go_at_call 29; refine (put_any _ (w.heap.size + 1) _ _ _ 4 (by omega) (by omega) HO1.out s1 (by simp [be_len])).mono ?_; rintro e w2 ⟨v2, rfl, o2, b2, s2⟩; have HO2 := hide o2; have RB2 := hide (RB1.out.trans b2); clear o2 b2 HO1; obtain ⟨b0, b1, b2, b3, b4, b5⟩ := HBX.out w2 RB2.out)
    | (go_at_call 29; refine (put_any _ (w.heap.size + 1) _ _ _ 4 (by omega) (by omega) HO2.out s2 (by simp [be_len])).mono ?_; rintro e w3 ⟨v3, rfl, o3, b3', s3⟩; have HO3 := hide o3; have RB3 := hide (RB2.out.trans b3'); clear o3 b3' HO2; obtain ⟨c0, c1, c2, c3, c4, c5⟩ := HBX.out w3 RB3.out)
    | (go_at_call 29; refine (put_any _ (w.heap.size + 1) _ _ _ 4 (by omega) (by omega) HO3.out s3 (by simp [be_len])).mono ?_; rintro e w4 ⟨v4, rfl, o4, b4', s4⟩; have HO4 := hide o4; have RB4 := hide (RB3.out.trans b4'); clear o4 b4' HO3; obtain ⟨d0, d1, d2, d3, d4, d5⟩ := HBX.out w4 RB4.out)
    | (go_at_call 29; refine (put_any _ (w.heap.size + 1) _ _ _ 2 (by omega) (by omega) HO4.out s4 (by simp [be_len])).mono ?_; rintro e w5 ⟨v5, rfl, o5, b5', s5⟩; have HO5 := hide o5; have RB5 := hide (RB4.out.trans b5'); clear o5 b5' HO4; obtain ⟨e0, e1, e2, e3, e4, e5⟩ := HBX.out w5 RB5.out)
    | (go_at_call 29; refine (put_any _ (w.heap.size + 1) _ _ _ 4 (by omega) (by omega) HO5.out s5 (by simp [be_len])).mono ?_; rintro e w6 ⟨v6, rfl, o6, b6', s6⟩; have HO6 := hide o6; have RB6 := hide (RB5.out.trans b6'); clear o6 b6' HO5; obtain ⟨f0, f1, f2, f3, f4, f5⟩ := HBX.out w6 RB6.out; have HPF := hide (HPX.out w6 RB6.out))
    | (at_builtin; refine wpList_app rfl (.tmp 40) (.tmp 42) rfl (w.heap.size + 1) _ _ _ p rfl rfl HO6.out HPF.out (by simp [be_len]; omega) s6 ?_))
  intro v7 w7 o7 b7' s7 _
  have HR := hide (HFIN.out w7 v7 (by simpa using o7) (RB6.out.trans b7'))
  clear o7 b7'
  go_wp2
  go_ret
  exact ⟨_, rfl, HR.out.1, HR.out.2⟩

end Go.Proofs.Ytacjibfmhhmbcaa
