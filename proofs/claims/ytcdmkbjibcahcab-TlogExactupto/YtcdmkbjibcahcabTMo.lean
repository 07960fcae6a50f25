import Derived.Test.YtcdmkbjibcahcabTMn
namespace Go.Proofs.Ytcdmkbjibcahcab
open Go.RowKit
set_option linter.unusedVariables false
set_option linter.unusedSimpArgs false
set_option maxRecDepth 20000

theorem moves_any {w0 x : World} {p bm q b : Nat} {A0 : Nat → Nat → Prop} {v dv : Value} {S : LS} {c N : Nat} (h : PX w0 x p bm v q dv S S b c N A0 []) (hN : N ≤ 10000000000000) (hc : c ≤ 4400000000000) (k o1 o2 o3 : Int) (hid : i64ok o2) (told : Bool) : Calls Try.prog 6 #[.agg #[.pointer (some ⟨p, 0, none⟩), .pointer (some ⟨q, 0, none⟩)], .agg #[.int .i64 k, .int .i64 o1, .int .i64 o2, .int .i64 o3], .bool told, .pointer (some ⟨b, 0, none⟩)] x (MvP w0 x p bm q b A0 v dv (c + 1) (N + 1)) := by
  by_cases h0 : k = 0
  · subst h0
    exact mv_add h hN o1 o2 o3 hid told
  by_cases h1 : k = 1
  · subst h1
    exact mv_close h hN hc o1 o2 o3 hid told
  by_cases h2 : k = 2
  · subst h2
    exact mv_ack h hN hc o1 o2 o3 hid told
  by_cases h3 : k = 3
  · subst h3
    exact mv_bar h hN hc o1 o2 o3 hid told
  by_cases h4 : k = 4
  · subst h4
    exact mv_fail h hN hc o1 o2 o3 hid told
  by_cases h10 : k = 10
  · subst h10
    by_cases he : S.ls = []
    · exact mv_next0 h hN hc he o1 o2 o3 hid told
    · exact mv_next h hN hc he o1 o2 o3 hid told
  exact mv_none h hN hc k h0 h1 h2 h3 h4 h10 o1 o2 o3 hid told
end Go.Proofs.Ytcdmkbjibcahcab
