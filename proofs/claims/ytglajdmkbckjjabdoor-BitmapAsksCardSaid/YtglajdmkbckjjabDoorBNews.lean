import Derived.Test.YtglajdmkbckjjabDoorBAsk
namespace Go.Proofs.YtglajdmkbckjjabDoor
open Go.RowKit Go.Shelf
set_option linter.unusedVariables false
set_option linter.unusedSimpArgs false
set_option maxRecDepth 20000

set_option maxHeartbeats 2000000 in
theorem news_some {w : World} {fr : Bool} {n : Int} {a : Option Addr} {len cap nn BB : Nat}
    (hM : ∀ x k nl bv raw was ys, Below w.heap.size w x → Bk x k false bv raw was nl ys → nl ≤ 9000000000000 → Calls Tryd.prog 15 #[.agg #[.bool fr, .int .i64 n, .slice a len cap], .pointer (some ⟨k, 0, none⟩)] x fun e w' => e = .returned (.tuple #[.pointer (some ⟨x.heap.size + 1, 0, none⟩), .bool true]) ∧ MPost x w' k nl bv raw was ∧ ∃ L R, Pr w' (x.heap.size + 1) k L R nn BB ∧ ∀ b, PU (x.heap.size + 1) L R b → x.heap.size ≤ b) :
    Calls Tryd.prog 4 #[.agg #[.bool fr, .int .i64 n, .slice a len cap]] w fun e w' => e = .returned (.bool true) ∧ Below w.heap.size w w' := by
  have q2 := pbmSome
  have HBE := hide (((Below.refl w.heap.size w).alloc (Nat.le_refl _) (.cells #[.bool fr, .int .i64 n, .slice a len cap] 36)).alloc (by simp) (.cells #[.slice none 0 0, .bool false, .slice none 0 0, .slice none 0 0] 43))
  have HBK : Hid (Bk ((w.alloc (.cells #[.bool fr, .int .i64 n, .slice a len cap] 36)).alloc (.cells #[.slice none 0 0, .bool false, .slice none 0 0, .slice none 0 0] 43)) (w.heap.size + 1) false (.slice none 0 0) (.slice none 0 0) (.slice none 0 0) 0 []) := hide (by
    refine ⟨?_, rfl, .inl ⟨rfl, rfl⟩⟩
    have := Go.heap_alloc_new (w.alloc (.cells #[.bool fr, .int .i64 n, .slice a len cap] 36)) (.cells #[.slice none 0 0, .bool false, .slice none 0 0, .slice none 0 0] 43)
    rw [World.size_alloc] at this
    exact this)
  have HM := hide hM
  clear hM
  go_enter Tryd.func4, Tryd.ntmps4
  go_wp2_with (first
    | (go_at_call 15; refine (HM.out _ _ _ _ _ _ _ HBE.out HBK.out (Nat.zero_le _)).mono ?_; rintro e w3 ⟨rfl, hmp, L, R, hpr, -⟩; simp only [World.size_alloc] at hpr ⊢; have c0 := hpr.c 0; simp only [PB] at c0; have HPR := hide hpr; have HB3 := hide (HBE.out.trans (hmp.chg.below (N := w.heap.size) (by simp; omega) (by rintro b (rfl | e); (· omega); (· simp [Value.ownBlock] at e)))); obtain ⟨bv1, nl1, ys1, hbk1, hnl1, hbl1⟩ := hmp.bk; have HBK1 := hide hbk1; have HBL1 : Hid (∀ b, (b = w.heap.size + 1 ∨ bv1.ownBlock = some b) → w.heap.size ≤ b) := hide (by rintro b (rfl | e); (· omega); (· rcases hbl1 b e with h | h; (· simp [Value.ownBlock] at h); (· simp only [World.size_alloc] at h; omega))); have HA1 := hide (ask_len hpr 0 0 false false none none none 0 0 0 0 0 0); unfold opA at HA1; clear hmp hpr hbk1 hbl1 HBK HM)
    | (go_at_call 16; refine HA1.out.mono ?_; rintro e w4 ⟨rfl, hb4⟩; have HB4w := hide hb4; have HPR4 := hide (HPR.out.below hb4); have HB4 := hide (HB3.out.trans (hb4.mono HB3.out.size)); have HA2 := hide (ask_count HPR4.out 0 0 false false none none none 0 0 0 0 0 0); unfold opA at HA2; clear hb4 HA1)
    | (go_at_call 16; refine HA2.out.mono ?_; rintro e w5 ⟨rfl, hb5⟩; have HPR5 := hide (HPR4.out.below hb5); have HBK5 := hide ((HBK1.out.below HB4w.out).below hb5); have HB5 := hide (HB4.out.trans (hb5.mono HB4.out.size)); have HA3 := hide (ask_words HPR5.out HBK5.out (by omega) 0 0 false false none none none 0 0 0 0 0 0); unfold opA at HA3; clear hb5 HA2)
    | (go_at_call 16; refine HA3.out.mono ?_; rintro e w6 ⟨rfl, hp6⟩; have HPR6 := hide hp6.pr; have HB6 := hide (HB5.out.trans (hp6.chg.below HB5.out.size HBL1.out)); obtain ⟨bv2, ys2, hbk2, hbl2⟩ := hp6.bk; have HBK2 := hide hbk2; have HBL2 : Hid (∀ b, (b = w.heap.size + 1 ∨ bv2.ownBlock = some b) → w.heap.size ≤ b) := hide (by rintro b (rfl | e); (· omega); (· rcases hbl2 b e with h | h; (· exact HBL1.out b (.inr h)); (· have := HB5.out.size; omega))); have HA4 := hide (ask_sum HPR6.out hbk2 (by omega) 0 0 false false none none none 0 0 0 0 0 0); unfold opA at HA4; clear hp6 hbk2 hbl2 HA3)
    | (go_at_call 16; refine HA4.out.mono ?_; rintro e w7 ⟨rfl, hp7⟩; have HB7 := hide (HB6.out.trans (hp7.chg.below HB6.out.size HBL2.out)); clear hp7 HA4))
  go_ret
  exact ⟨rfl, HB7.out⟩
set_option maxHeartbeats 1000000 in
theorem news_no {w : World} {fr : Bool} {n : Int} {a : Option Addr} {len cap : Nat}
    (hM : ∀ x k nl bv raw was ys, Below w.heap.size w x → Bk x k false bv raw was nl ys → nl ≤ 9000000000000 → Calls Tryd.prog 15 #[.agg #[.bool fr, .int .i64 n, .slice a len cap], .pointer (some ⟨k, 0, none⟩)] x fun e w' => e = .returned (.tuple #[.pointer (some ⟨x.heap.size + 1, 0, none⟩), .bool true]) ∧ MPost x w' k nl bv raw was ∧ w'.cell? ⟨x.heap.size + 1, 0, none⟩ = some (.pointer none)) :
    Calls Tryd.prog 4 #[.agg #[.bool fr, .int .i64 n, .slice a len cap]] w fun e w' => e = .returned (.bool true) ∧ Below w.heap.size w w' := by
  have q2 := pbmNil
  have HBE := hide (((Below.refl w.heap.size w).alloc (Nat.le_refl _) (.cells #[.bool fr, .int .i64 n, .slice a len cap] 36)).alloc (by simp) (.cells #[.slice none 0 0, .bool false, .slice none 0 0, .slice none 0 0] 43))
  have HBK : Hid (Bk ((w.alloc (.cells #[.bool fr, .int .i64 n, .slice a len cap] 36)).alloc (.cells #[.slice none 0 0, .bool false, .slice none 0 0, .slice none 0 0] 43)) (w.heap.size + 1) false (.slice none 0 0) (.slice none 0 0) (.slice none 0 0) 0 []) := hide (by
    refine ⟨?_, rfl, .inl ⟨rfl, rfl⟩⟩
    have := Go.heap_alloc_new (w.alloc (.cells #[.bool fr, .int .i64 n, .slice a len cap] 36)) (.cells #[.slice none 0 0, .bool false, .slice none 0 0, .slice none 0 0] 43)
    rw [World.size_alloc] at this
    exact this)
  have HM := hide hM
  clear hM
  go_enter Tryd.func4, Tryd.ntmps4
  go_wp2_with (first
    | (go_at_call 15; refine (HM.out _ _ _ _ _ _ _ HBE.out HBK.out (Nat.zero_le _)).mono ?_; rintro e w3 ⟨rfl, hmp, c0⟩; simp only [World.size_alloc] at c0 ⊢; have HB3 := hide (HBE.out.trans (hmp.chg.below (N := w.heap.size) (by simp; omega) (by rintro b (rfl | e); (· omega); (· simp [Value.ownBlock] at e)))); clear hmp HBK HM))
  go_ret
  exact ⟨rfl, HB3.out⟩

/-- ████ P301, P302, P303: New and From, and what a new bitmap tells ████ -/
theorem news_any {w : World} {fr : Bool} {n : Int} {mv : Value} {l : List Nat} (hv : WSl w mv l) (hr : l.length ≤ 17592186044416) :
    Calls Tryd.prog 4 #[.agg #[.bool fr, .int .i64 n, mv]] w fun e w' => e = .returned (.bool true) ∧ Below w.heap.size w w' := by
  have hv' := hv
  obtain ⟨a, cap, rfl, -⟩ := hv'
  by_cases hn : 1 ≤ n ∧ n ≤ 65536
  · obtain ⟨m, rfl⟩ : ∃ m : Nat, n = (m : Int) := ⟨n.toNat, by omega⟩
    have h1 : 1 ≤ m := by omega
    have h2 : m ≤ 65536 := by omega
    cases fr with
    | false => exact news_some fun x k nl bv raw was ys hx hb hnl => made_new_some (hv.below hx) hr hb hnl m h1 h2
    | true =>
      by_cases he : cwErr m l = 0
      · exact news_some fun x k nl bv raw was ys hx hb hnl => made_from_some (hv.below hx) hr hb hnl m h1 h2 he
      · exact news_no fun x k nl bv raw was ys hx hb hnl => made_from_no (hv.below hx) hr hb hnl (m : Int) _ (fun y v hy => From_bad m h1 h2 hy he) (fun y v hy => rFrom_bad m h1 h2 hy he)
  · cases fr with
    | false => exact news_no fun x k nl bv raw was ys hx hb hnl => made_new_no (hv.below hx) hr hb hnl n 1 (fun y => (New_no y n hn).mono fun e w' ⟨h1, h2⟩ => ⟨h1, h2 ▸ Below.refl _ _⟩) (fun y => rNew_no y n hn)
    | true => exact news_no fun x k nl bv raw was ys hx hb hnl => made_from_no (hv.below hx) hr hb hnl n 1 (fun y v hy => (From_no n hn hy).mono fun e w' ⟨h1, h2⟩ => ⟨h1, h2 ▸ Below.refl _ _⟩) (fun y v hy => rFrom_no n hn hy)
end Go.Proofs.YtglajdmkbckjjabDoor
