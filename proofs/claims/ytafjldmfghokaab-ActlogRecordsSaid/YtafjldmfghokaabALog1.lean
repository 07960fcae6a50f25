import Derived.Test.YtafjldmfghokaabARef7
namespace Go.Proofs.Ytafjldmfghokaab
open Go.RowKit Go.Sort
set_option linter.unusedVariables false
set_option linter.unusedSimpArgs false
set_option maxRecDepth 20000

set_option maxHeartbeats 1000000 in
theorem Refs_any {w : World} {p bm : Nat} {kv rv iv : Value} {S : LS} {M : Nat} {key : Int} (h : LRep w p bm kv rv iv S) (hS : S.Ok M) (hk : i64ok key) :
    Calls Try.prog 131 #[.pointer (some ⟨p, 0, none⟩), .int .i64 key] w fun e w' => ∃ r : Nat, e = .returned (.int .i64 (r : Int)) ∧ w' = w ∧ RefRes S key r := by
  have hkey := keyI hk
  obtain ⟨D, hown, hD1, hD2⟩ := h.look hS key
  have c1 : w.cell? ⟨p, 1, none⟩ = some (.map (some bm)) := h.c 1
  have h16 := hS.s2
  have hkl := hS.kl
  by_cases hin : key ∈ S.ks
  · obtain ⟨s, hs⟩ := List.getElem?_of_mem hin
    obtain ⟨hh, hc⟩ := hD1 s hs
    have hsr : s < S.rs.length := by rw [hS.rl]; exact (List.getElem?_eq_some_iff.1 hs).1
    have hrs : S.rs[s]? = some S.rs[s] := List.getElem?_eq_getElem hsr
    obtain ⟨g, cap, cs, erv, hcg, hcs⟩ := row_at h.ro hrs
    have hcap : S.rs.length ≤ cap ∧ cap ≤ 9223372036854775807 := by
      obtain ⟨a', c', e', q1, q2⟩ := rowForm (erv ▸ h.ro)
      simp only [Value.slice.injEq] at e'
      unfold maxLen at q2
      omega
    obtain ⟨hcap1, hcap2⟩ := hcap
    subst erv
    have hrl : S.rs.length ≤ 16 := by rw [hS.rl]; omega
    have c3 : w.cell? ⟨p, 3, none⟩ = some (.slice (some ⟨g, 0, none⟩) S.rs.length cap) := h.c 3
    have HF : Hid (RefRes S key S.rs[s]) := hide (.inl ⟨s, hs, hrs⟩)
    generalize S.rs[s] = r at *
    clear h hS hs hrs hD1 hD2 hin hcs
    generalize S.rs.length = nr at *
    go_enter Try.func131, Try.ntmps131
    go_wp2_with (at_lookup; refine wpList_lookup_own_ok_int _ rfl _ _ 110 rfl 3 3 .i64 kInt Try.underlying110 Try.underlying3 (zeroI _) bm 16 D rfl hown _ (kL key) rfl hkey ?_)
    intro c hat hwc
    obtain rfl := hc c hat
    clear hat hwc hc
    go_wp2_with fail
    go_ret
    exact ⟨_, rfl, rfl, HF.out⟩
  · obtain ⟨hh, hc⟩ := hD2 hin
    have HF : Hid (RefRes S key 0) := hide (.inr ⟨hin, rfl⟩)
    clear h hS hD1 hD2 hin
    go_enter Try.func131, Try.ntmps131
    go_wp2_with (at_lookup; refine wpList_lookup_own_ok_int _ rfl _ _ 110 rfl 3 3 .i64 kInt Try.underlying110 Try.underlying3 (zeroI _) bm 16 D rfl hown _ (kL key) rfl hkey ?_)
    intro c hat hwc
    obtain rfl := hc c hat
    clear hat hwc hc
    go_wp2_with fail
    go_ret
    exact ⟨0, rfl, rfl, HF.out⟩
/-- a log: its block, and its Lru -/
structure LgR (w : World) (lp p bm : Nat) (kv rv iv : Value) (S : LS) (ext size first written : Nat) : Prop where
  row : w.heap[lp]? = some (.cells #[.pointer (some ⟨p, 0, none⟩), .int .i64 (ext : Int), .int .i64 (size : Int), .int .u32 (first : Int), .int .i64 (written : Int)] 88 (0, 0))
  l : LRep w p bm kv rv iv S
  ap : ¬ LU p bm kv rv iv lp
def GU (lp p bm : Nat) (kv rv iv : Value) (b : Nat) : Prop := b = lp ∨ LU p bm kv rv iv b
theorem LgR.c {w : World} {lp p bm : Nat} {kv rv iv : Value} {S : LS} {ext size first written : Nat} (h : LgR w lp p bm kv rv iv S ext size first written) (i : Nat) : w.cell? ⟨lp, i, none⟩ = (#[.pointer (some ⟨p, 0, none⟩), .int .i64 (ext : Int), .int .i64 (size : Int), .int .u32 (first : Int), .int .i64 (written : Int)] : Array Value)[i]? := cell_of_row _ _ _ _ _ _ h.row
theorem LgR.lt {w : World} {lp p bm : Nat} {kv rv iv : Value} {S : LS} {ext size first written : Nat} (h : LgR w lp p bm kv rv iv S ext size first written) : ∀ b, GU lp p bm kv rv iv b → b < w.heap.size := by
  rintro b (rfl | e)
  · exact (Array.getElem?_eq_some_iff.1 h.row).1
  · exact h.l.lt b e
theorem LgR.kept {w w' : World} {lp p bm : Nat} {kv rv iv : Value} {S : LS} {ext size first written : Nat} (h : LgR w lp p bm kv rv iv S ext size first written) (hk : ∀ b, GU lp p bm kv rv iv b → w'.heap[b]? = w.heap[b]?) : LgR w' lp p bm kv rv iv S ext size first written :=
  ⟨(hk _ (.inl rfl)).trans h.row, h.l.kept fun b e => hk b (.inr e), h.ap⟩
theorem LgR.below {w w' : World} {lp p bm : Nat} {kv rv iv : Value} {S : LS} {ext size first written : Nat} (h : LgR w lp p bm kv rv iv S ext size first written) (hb : Below w.heap.size w w') : LgR w' lp p bm kv rv iv S ext size first written := h.kept fun b e => hb.block b (h.lt b e)
/-- the Lru turned: the log with it -/
theorem LgR.turn {w w' : World} {lp p bm : Nat} {kv rv iv kv' rv' iv' : Value} {S S' : LS} {ext size first written : Nat} (h : LgR w lp p bm kv rv iv S ext size first written) (hl : LRep w' p bm kv' rv' iv' S') (hc : Chg (LU p bm kv rv iv) w w') (hloc : LLoc w p bm kv rv iv kv' rv' iv') : LgR w' lp p bm kv' rv' iv' S' ext size first written := by
  have hlt := h.lt lp (.inl rfl)
  refine ⟨(hc.keep lp hlt h.ap).trans h.row, hl, fun e => ?_⟩
  rcases hloc lp e with e | e
  · exact h.ap e
  · omega
theorem lhas_any {w : World} {lp p bm : Nat} {kv rv iv : Value} {S : LS} {ext size first written : Nat} (h : LgR w lp p bm kv rv iv S ext size first written) (x : Int) :
    Calls Try.prog 35 #[.pointer (some ⟨lp, 0, none⟩), .int .i64 x] w fun e w' => e = .returned (.bool (decide (0 ≤ x ∧ x < (ext : Int)))) ∧ w' = w := by
  have c1 : w.cell? ⟨lp, 1, none⟩ = some (.int .i64 (ext : Int)) := h.c 1
  clear h
  by_cases h0 : 0 ≤ x
  · by_cases h1 : x < (ext : Int)
    · rw [decide_eq_true (And.intro h0 h1)]
      go_enter Try.func35, Try.ntmps35
      go_wp2_with fail
      go_ret
      exact ⟨by simp, rfl⟩
    · rw [decide_eq_false (fun e => h1 e.2)]
      have b1 : (x < (ext : Int)) = False := by simp; omega
      go_enter Try.func35, Try.ntmps35
      go_wp2_with fail
      go_ret
      exact ⟨by simp, rfl⟩
  · rw [decide_eq_false (fun e => h0 e.1)]
    have b1 : (0 ≤ x) = False := by simp; omega
    go_enter Try.func35, Try.ntmps35
    go_wp2_with fail
    go_ret
    exact ⟨by simp, rfl⟩
theorem lRefs_any {w : World} {lp p bm M : Nat} {kv rv iv : Value} {S : LS} {ext size first written : Nat} (h : LgR w lp p bm kv rv iv S ext size first written) (hS : S.Ok M) {x : Int} (hx : i64ok x) :
    Calls Try.prog 108 #[.pointer (some ⟨lp, 0, none⟩), .int .i64 x] w fun e w' => ∃ r : Nat, e = .returned (.int .i64 (r : Int)) ∧ w' = w ∧ RefRes S x r := by
  have c0 : w.cell? ⟨lp, 0, none⟩ = some (.pointer (some ⟨p, 0, none⟩)) := h.c 0
  have HR := hide (Refs_any h.l hS hx)
  clear h hS hx
  go_enter Try.func108, Try.ntmps108
  go_wp2_with (first
    | (go_at_call 131; refine HR.out.mono ?_; rintro e w1 ⟨r, rfl, rfl, hr⟩; have HF := hide hr; clear hr HR))
  go_ret
  exact ⟨_, rfl, rfl, HF.out⟩
set_option maxHeartbeats 1000000 in
theorem lEnd_any {w : World} {lp p bm M : Nat} {kv rv iv : Value} {S : LS} {ext size first written : Nat} (h : LgR w lp p bm kv rv iv S ext size first written) (hS : S.Ok M) (hM : M ≤ 4611686018427387904) {x : Int} (hx : i64ok x) :
    Calls Try.prog 16 #[.pointer (some ⟨lp, 0, none⟩), .int .i64 x] w fun e w' => (¬ (0 ≤ x ∧ x < (ext : Int)) ∧ e = .returned (.int .i64 2) ∧ w' = w) ∨
      ((0 ≤ x ∧ x < (ext : Int)) ∧ ∃ S' er iv', PutRes S x S' er ∧ e = .returned (.int .i64 er) ∧ LgR w' lp p bm kv rv iv' S' ext size first written ∧ S'.Ok M ∧ Chg (LU p bm kv rv iv) w w' ∧ LLoc w p bm kv rv iv kv rv iv') := by
  have c0 : w.cell? ⟨lp, 0, none⟩ = some (.pointer (some ⟨p, 0, none⟩)) := h.c 0
  have HH := hide (lhas_any h x)
  have HP := hide (Put_any h.l hS hM hx)
  have HT : Hid (∀ w' kv' rv' iv' S', _ → _ → _ → LgR w' lp p bm kv' rv' iv' S' ext size first written) := hide fun w' kv' rv' iv' S' a b c => h.turn (w' := w') (kv' := kv') (rv' := rv') (iv' := iv') (S' := S') a b c
  clear h hS hx
  by_cases hin : 0 ≤ x ∧ x < (ext : Int)
  · rw [decide_eq_true hin] at HH
    have HI := hide hin
    clear hin
    go_enter Try.func16, Try.ntmps16
    go_wp2_with (first
      | (go_at_call 35; refine HH.out.mono ?_; rintro e w1 ⟨rfl, rfl⟩; clear HH)
      | (go_at_call 40; refine HP.out.mono ?_; rintro e w2 ⟨S', er, iv', hp, rfl, hl, ho, hc, hloc⟩; have HF := hide (And.intro hp (And.intro (HT.out _ _ _ _ _ hl hc hloc) (And.intro ho (And.intro hc hloc)))); clear hp hl ho hc hloc HP HT))
    go_ret
    exact .inr ⟨HI.out, _, _, _, HF.out.1, rfl, HF.out.2⟩
  · rw [decide_eq_false hin] at HH
    have HI := hide hin
    clear hin
    go_enter Try.func16, Try.ntmps16
    go_wp2_with (first
      | (go_at_call 35; refine HH.out.mono ?_; rintro e w1 ⟨rfl, rfl⟩; clear HH))
    go_ret
    exact .inl ⟨HI.out, rfl, rfl⟩
end Go.Proofs.Ytafjldmfghokaab
