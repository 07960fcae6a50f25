import Derived.Test.YtophcdfaflehcaaDoorWRef
import Derived.Test.YtophcdfaflehcaaDoorBSetR4
namespace Go.Proofs.YtophcdfaflehcaaDoor
open Go.RowKit
set_option linter.unusedVariables false
set_option linter.unusedSimpArgs false
set_option maxRecDepth 20000

/-- how many bits of an extent are set; the extents that have some -/
def ec (B n x : Nat) : Nat := cnt (fun j => B.testBit (4 * x + j)) (min 4 (n - 4 * x))
def eL (B n : Nat) : Nat → List (Nat × Nat)
  | 0 => []
  | x + 1 => eL B n x ++ (if 0 < ec B n x then [(x, ec B n x)] else [])
theorem eL_len (B n : Nat) : ∀ x, (eL B n x).length ≤ x
  | 0 => Nat.le_refl _
  | x + 1 => by
    have := eL_len B n x
    simp only [eL, List.length_append]
    split <;> simp <;> omega
theorem eL_gap {B n : Nat} {x y : Nat} (h : x ≤ y) (hz : ∀ i, x ≤ i → i < y → ec B n i = 0) : eL B n y = eL B n x := by
  induction y with
  | zero => rw [show x = 0 by omega]
  | succ y ih =>
    by_cases e : x = y + 1
    · rw [e]
    · rw [eL, hz y (by omega) (by omega), ih (by omega) fun i h1 h2 => hz i h1 (by omega)]
      simp
theorem eL_pre (B n : Nat) {x y : Nat} (h : x ≤ y) : ∃ r, eL B n y = eL B n x ++ r := by
  induction y with
  | zero => exact ⟨[], by rw [show x = 0 by omega]; simp⟩
  | succ y ih =>
    by_cases e : x = y + 1
    · exact ⟨[], by rw [e]; simp⟩
    · obtain ⟨r, hr⟩ := ih (by omega)
      exact ⟨r ++ (if 0 < ec B n y then [(y, ec B n y)] else []), by rw [eL, hr, List.append_assoc]⟩
theorem ec_le (B n x : Nat) : ec B n x ≤ 4 := Nat.le_trans (cnt_le _ _) (by omega)
/-- the extent that a place lies ahead of -/
def xs (s : Nat) : Nat := (s + 3) / 4
theorem ext_step {B n s b : Nat} (hs : s ≤ n) (hb : s % 4 = 0 ∨ s = n) (h : nx B n s = some b) :
    eL B n (b / 4 + 1) = eL B n (xs s) ++ [(b / 4, cnt (fun j => B.testBit (b + j)) (min ((b / 4 + 1) * 4) n - b))] ∧ xs (min ((b / 4 + 1) * 4) n) = b / 4 + 1 ∧ b < min ((b / 4 + 1) * 4) n ∧ b < n := by
  obtain ⟨h1, h2, h3, h4⟩ := nx_facts h hs
  have hs4 : s % 4 = 0 := by omega
  have hx0 : xs s = s / 4 := by unfold xs; omega
  have e1 : eL B n (b / 4) = eL B n (xs s) := eL_gap (by rw [hx0]; omega) fun i g1 g2 => by
    unfold ec
    refine cnt_zero _ fun j hj => h4 _ (by rw [hx0] at g1; omega) (by omega)
  have e2 : ec B n (b / 4) = cnt (fun j => B.testBit (b + j)) (min ((b / 4 + 1) * 4) n - b) := by
    unfold ec
    rw [show min 4 (n - 4 * (b / 4)) = (b - 4 * (b / 4)) + (min ((b / 4 + 1) * 4) n - b) by omega, cnt_add, cnt_zero _ fun j hj => h4 _ (by omega) (by omega), Nat.zero_add]
    exact cnt_congr _ fun i hi => by rw [show 4 * (b / 4) + (b - 4 * (b / 4) + i) = b + i by omega]
  have e3 : 0 < ec B n (b / 4) := by
    rw [e2]
    obtain ⟨d, hd⟩ : ∃ d, min ((b / 4 + 1) * 4) n - b = 1 + d := ⟨min ((b / 4 + 1) * 4) n - b - 1, by omega⟩
    rw [hd, cnt_add]
    have : cnt (fun j => B.testBit (b + j)) 1 = 1 := by simp [cnt, h3]
    omega
  refine ⟨?_, by unfold xs; omega, by omega, h2⟩
  rw [eL, if_pos e3, e1, e2]
theorem ext_end {B n s : Nat} (hs : s ≤ n) (hb : s % 4 = 0 ∨ s = n) (h : nx B n s = none) : eL B n (xs n) = eL B n (xs s) := by
  have h4 := nx_no h
  refine eL_gap (by unfold xs; omega) fun i g1 g2 => ?_
  unfold ec
  refine cnt_zero _ fun j hj => h4 _ ?_ (by omega)
  unfold xs at g1
  omega
/-- one's own list of counts -/
def ccs (l : List (Nat × Nat)) : List Value := l.flatMap fun p => [.int .i64 (p.1 : Int), .int .i64 (p.2 : Int)]
theorem ccs_len : ∀ l : List (Nat × Nat), (ccs l).length = l.length * 2
  | [] => rfl
  | p :: l => by
    have := ccs_len l
    simp only [ccs, List.flatMap_cons, List.length_append, List.length_cons, List.length_nil] at this ⊢
    omega
theorem ccs_app (l r : List (Nat × Nat)) : ccs (l ++ r) = ccs l ++ ccs r := by simp [ccs]
theorem ccs_get : ∀ (l : List (Nat × Nat)) (i : Nat) (h : i < l.length), (ccs l)[i * 2]? = some (.int .i64 ((l.getD i (0, 0)).1 : Int)) ∧ (ccs l)[i * 2 + 1]? = some (.int .i64 ((l.getD i (0, 0)).2 : Int))
  | [], i, h => by simp at h
  | p :: l, 0, h => by simp [ccs]
  | p :: l, i + 1, h => by
    have ih := ccs_get l i (by simpa using h)
    rw [show (i + 1) * 2 = i * 2 + 1 + 1 by omega]
    simpa [ccs, List.getD] using ih
def CRow (w : World) (v : Value) (l : List (Nat × Nat)) : Prop := w.ownsRow 0 47 2 v l.length (ccs l)
theorem Tryd.infoC : (Tryd.prog.info? 47).map (fun i => (i.zero, i.size, i.bytes)) = some (some (.agg #[.int .i64 0, .int .i64 0]), 2, 16) := by kernel_rfl
theorem infoCs : ∃ i, Tryd.prog.info? 47 = some i ∧ i.zero = some (.agg #[.int .i64 0, .int .i64 0]) ∧ i.size = 2 ∧ i.bytes = 16 := by
  have h := Tryd.infoC
  cases hi : Tryd.prog.info? 47 with
  | none => rw [hi] at h; simp at h
  | some i => rw [hi] at h; simp at h; exact ⟨i, rfl, h.1, h.2.1, h.2.2⟩
theorem CRow.nil (w : World) : CRow w (.slice none 0 0) [] := ⟨rfl, .inl ⟨rfl, rfl⟩⟩
theorem CRow.kept {w w' : World} {v : Value} {l : List (Nat × Nat)} (h : CRow w v l) (hk : ∀ g, v.ownBlock = some g → w'.heap[g]? = w.heap[g]?) : CRow w' v l := by
  refine ⟨h.1, ?_⟩
  rcases h.2 with h0 | ⟨g, cap, cur, rfl, h1, hg, r⟩
  · exact .inl h0
  · exact .inr ⟨g, cap, cur, rfl, h1, by rw [hk g rfl]; exact hg, r⟩
theorem CRow.blk {w : World} {v : Value} {l : List (Nat × Nat)} (h : CRow w v l) {g : Nat} (hg : v.ownBlock = some g) : ∃ cs, w.heap[g]? = some (.cells cs 47 (0, 0)) := by
  rcases h.2 with ⟨rfl, _⟩ | ⟨g', cap, cur, rfl, _, hh, _⟩
  · simp [Value.ownBlock] at hg
  · simp only [Value.ownBlock, Option.some.injEq] at hg
    subst hg
    exact ⟨cur, hh⟩
theorem CRow.shape {w : World} {v : Value} {l : List (Nat × Nat)} (h : CRow w v l) : ∃ a c, v = .slice a l.length c ∧ l.length ≤ c ∧ c ≤ maxLen := by
  rcases h.2 with ⟨rfl, h0⟩ | ⟨g, cap, cur, rfl, _, _, h1, h2, _⟩
  · rw [h0]; exact ⟨_, _, rfl, Nat.le_refl _, Nat.zero_le _⟩
  · exact ⟨_, _, rfl, h1, h2⟩
theorem CRow.at {w : World} {v : Value} {l : List (Nat × Nat)} (h : CRow w v l) {i : Nat} (hi : i < l.length) : ∃ g c, v = .slice (some ⟨g, 0, none⟩) l.length c ∧ w.cell? ⟨g, i * 2, none⟩ = some (.int .i64 ((l.getD i (0, 0)).1 : Int)) ∧ w.cell? ⟨g, i * 2 + 1, none⟩ = some (.int .i64 ((l.getD i (0, 0)).2 : Int)) := by
  have h' := h
  rcases h.2 with ⟨rfl, h0⟩ | ⟨g, cap, cur, rfl, _, hg, h1, h2, _⟩
  · omega
  · obtain ⟨k1, k2⟩ := ccs_get l i hi
    have c1 := World.ownsRow.cells h' (g := g) rfl _ _ k1
    have c2 := World.ownsRow.cells h' (g := g) rfl _ _ k2
    rw [Addr.add_lit, Nat.zero_add] at c1 c2
    exact ⟨g, cap, rfl, c1, c2⟩
theorem run_appendC (w : World) (ty : TypeId) (v : Value) (l : List (Nat × Nat)) (hown : CRow w v l) (a : Addr) (c : Nat) (x y : Nat) (hnews : ∀ j u, [Value.int .i64 (x : Int), Value.int .i64 (y : Int)][j]? = some u → w.cell? (a.add j) = some u) (hb : l.length + 1 ≤ 1000000) :
    ∃ v' w', (Builtin.append_ #[40, 40] ty #[v, .slice (some a) 1 c]).run Tryd.prog w = .ok v' w' ∧ CRow w' v' (l ++ [(x, y)]) ∧ App w w' v v' := by
  obtain ⟨i, hi, hz, hsize, hby⟩ := infoCs
  have ht : Tryd.prog.underlying 40 = some (.slice 47) := Tryd.underlying40
  have h1 : ∀ u ∈ [Value.int .i64 (x : Int), Value.int .i64 (y : Int)], u.oneCell' = true := fun u hu => by simp at hu; rcases hu with rfl | rfl <;> rfl
  obtain ⟨v', w', hr, ho, hg, -⟩ := run_append_own_wide (P := Tryd.prog) w 0 40 ty 47 i (.agg #[.int .i64 0, .int .i64 0]) 2 16 ht hi hz hsize hby rfl (by decide) v l.length (ccs l) hown a 1 c [.int .i64 (x : Int), .int .i64 (y : Int)] rfl hnews h1 (by unfold maxLen; omega) (by omega) (Nat.zero_le _)
  refine ⟨v', w', hr, ?_, ?_, ?_⟩
  · show w'.ownsRow 0 47 2 v' (l ++ [(x, y)]).length (ccs (l ++ [(x, y)]))
    rw [List.length_append, ccs_app]
    exact ho
  · exact ⟨hg.os, hg.tape, hg.output, hg.size, fun b hb hne => hg.block b hb fun e => hne e.symm⟩
  · intro g hgv
    rcases hown.2 with ⟨rfl, h0⟩ | ⟨g0, cap, cur, rfl, hbg, hgc, hnc, hcm, hcs, htake⟩
    · have hr2 := run_append_nil (P := Tryd.prog) w 40 ty 47 i (.agg #[.int .i64 0, .int .i64 0]) ht hi hz a 1 c [.int .i64 (x : Int), .int .i64 (y : Int)] (by rw [hsize]; rfl) hnews (by decide) (by decide) (by rw [hby]; decide)
      rw [hr] at hr2
      injection hr2 with e1 e2
      subst e1
      simp only [Value.ownBlock, Option.some.injEq] at hgv
      exact .inr (by omega)
    · by_cases hroom : l.length + 1 ≤ cap
      · have hr2 := run_append_room (P := Tryd.prog) w 40 ty 47 i ht hi g0 l.length cap cur hgc a 1 c [.int .i64 (x : Int), .int .i64 (y : Int)] (by rw [hsize]; rfl) hnews h1 hroom (by rw [hsize, hcs]; simp; omega)
        rw [hr] at hr2
        injection hr2 with e1 e2
        rw [e1] at hgv
        exact .inl hgv
      · have holds : ∀ j u, (ccs l)[j]? = some u → w.cell? ((⟨g0, 0, none⟩ : Addr).add j) = some u := World.ownsRow.cells hown (g := g0) rfl
        have hr2 := run_append_grow (P := Tryd.prog) w 40 ty 47 i (.agg #[.int .i64 0, .int .i64 0]) ht hi hz ⟨g0, 0, none⟩ l.length cap (ccs l) (by rw [hsize]; exact hown.1) holds a 1 c [.int .i64 (x : Int), .int .i64 (y : Int)] (by rw [hsize]; rfl) hnews (by omega) (by omega) (by rw [hby]; exact growslice_fits_wide (by omega) (by omega))
        rw [hr] at hr2
        injection hr2 with e1 e2
        subst e1
        simp only [Value.ownBlock, Option.some.injEq] at hgv
        exact .inr (by omega)
/-- what the document's Extents answers -/
def xL (n : Int) (l : List Nat) : List (Nat × Nat) := if n < 1 ∨ 65536 < n then [] else if cwErr n.toNat l = 0 then eL (valW l) n.toNat (xs n.toNat) else []
set_option maxHeartbeats 1000000 in
theorem rExt_any {w : World} {v : Value} {l : List Nat} (n : Nat) (hv : WSl w v l) (h1 : 1 ≤ n) (h2 : n ≤ 65536) (he : cwErr n l = 0) :
    Calls Tryd.prog 14 #[.int .i64 (n : Int), v] w fun e w' => ∃ cv, e = .returned cv ∧ CRow w' cv (eL (valW l) n (xs n)) ∧ Below w.heap.size w w' ∧ ∀ g, cv.ownBlock = some g → w.heap.size ≤ g := by
  have HL := hide (list_any n h1 h2 hv)
  rw [he] at HL
  have hlen := (valW_listed h1 hv.lt he).1
  have HB : Hid (∀ W, Below w.heap.size w W → ∀ i, i < n → Calls Tryd.prog 26 #[v, .int .i64 (i : Int)] W fun e w' => e = .returned (.bool ((valW l).testBit i)) ∧ w' = W) := hide fun W hW i hi => bit_any (hv.below hW) i (by rw [hlen]; unfold nW; omega) (by omega)
  generalize valW l = B at *
  obtain ⟨va, vcap, rfl, -⟩ := hv
  clear he hlen
  generalize l.length = llen at *
  go_enter Tryd.func14, Tryd.ntmps14
  go_wp2_with (go_at_call 25; refine HL.out.mono ?_; rintro e w' ⟨rfl, hw'⟩; have hw2 := hw'.symm; clear hw'; subst hw2)
  clear HL
  have hX : xs n * 4 ≥ n ∧ xs n ≤ n := by unfold xs; omega
  have HXS : Hid (∀ x, x < xs n ↔ x * 4 < n) := hide fun x => by unfold xs; omega
  generalize hXX : xs n = X at *
  have HXX := hide hXX
  clear hXX
  go_loopw [6, 7] (fun o y wr => ∃ (x : Nat) (cv : Value), o = cv ∧ y = .int .i64 (x : Int) ∧ x ≤ X ∧ CRow wr cv (eL B n x) ∧ Below w.heap.size w wr ∧ ∀ g, cv.ownBlock = some g → w.heap.size ≤ g) (fun _ y _ => X - (intOf y).toNat)
  case atStart => exact ⟨0, _, rfl, rfl, Nat.zero_le _, CRow.nil _, Below.refl _ _, by simp [Value.ownBlock]⟩
  case round =>
    obtain ⟨x, cv, rfl, rfl, hx, hC, hB, hN⟩ := hrel
    obtain ⟨xa, xc, rfl, x1, x2⟩ := hC.shape
    have HC := hide hC
    have HBL := hide hB
    have HN := hide hN
    have hel := eL_len B n x
    clear hC hB hN
    unfold maxLen at x2
    by_cases hlt : x < X
    · have hx4 : x * 4 < n := (HXS.out x).1 hlt
      have hx4i : (x : Int) * 4 < (n : Int) := by omega
      have HBW := hide (HB.out wr HBL.out)
      have HRL : Hid (eL B n (x + 1) = eL B n x ++ (if 0 < ec B n x then [(x, ec B n x)] else [])) := hide rfl
      have hecl := ec_le B n x
      obtain ⟨m, hm⟩ : ∃ m, m = min 4 (n - 4 * x) := ⟨_, rfl⟩
      have HEC : Hid (cnt (fun j => B.testBit (4 * x + j)) m = ec B n x) := hide (by rw [hm]; rfl)
      have HCS : Hid (∀ j, cnt (fun j => B.testBit (4 * x + j)) (j + 1) = cnt (fun j => B.testBit (4 * x + j)) j + (B.testBit (4 * x + j)).toNat) := hide fun j => rfl
      have HCZ : Hid (cnt (fun j => B.testBit (4 * x + j)) 0 = 0) := hide rfl
      have HCL : Hid (∀ j, cnt (fun j => B.testBit (4 * x + j)) j ≤ j) := hide fun j => cnt_le _ _
      generalize cnt (fun j => B.testBit (4 * x + j)) = F at *
      generalize ec B n x = E at *
      generalize hLL : (eL B n x).length = LL at *
      have HLL := hide hLL
      clear hLL
      go_wp2_with fail
      go_loop [8, 9] (fun c y => ∃ j : Nat, j ≤ m ∧ y = .int .i64 ((4 * x + j : Nat) : Int) ∧ c = .int .i64 ((F j : Nat) : Int)) (fun _ y => 4 * x + m - (intOf y).toNat)
      case atStart => exact ⟨0, Nat.zero_le _, by go_num, by rw [HCZ.out]; rfl⟩
      case round =>
        obtain ⟨j, hj, rfl, rfl⟩ := hrel
        have hFj := HCL.out j
        by_cases hjm : j < m
        · have q1 : ((4 * x + j : Nat) : Int) < ((x : Int) + 1) * 4 := by omega
          have q2 : ((4 * x + j : Nat) : Int) < (n : Int) := by omega
          have HI := hide (HBW.out (4 * x + j) (by omega))
          have HS := hide (HCS.out j)
          cases hb : B.testBit (4 * x + j) with
          | true =>
            rw [hb] at HI HS
            clear hb
            generalize F j = Fj at *
            generalize hI4 : 4 * x + j = I4 at *
            have HI4 := hide hI4
            clear hI4
            go_wp2_with (go_at_call 26; refine HI.out.mono ?_; rintro e w9 ⟨rfl, h9⟩; have h9s := h9.symm; clear h9; subst h9s)
            go_round
            case rel => exact ⟨j + 1, by omega, by rw [show 4 * x + (j + 1) = I4 + 1 by have := HI4.out; omega]; go_num, by rw [HS.out]; go_num⟩
            case measure => have := HI4.out; simp [intOf]; omega
          | false =>
            rw [hb] at HI HS
            clear hb
            generalize F j = Fj at *
            generalize hI4 : 4 * x + j = I4 at *
            have HI4 := hide hI4
            clear hI4
            go_wp2_with (go_at_call 26; refine HI.out.mono ?_; rintro e w9 ⟨rfl, h9⟩; have h9s := h9.symm; clear h9; subst h9s)
            go_round
            case rel => exact ⟨j + 1, by omega, by rw [show 4 * x + (j + 1) = I4 + 1 by have := HI4.out; omega]; go_num, by rw [HS.out]; rfl⟩
            case measure => have := HI4.out; simp [intOf]; omega
        · have ej : j = m := by omega
          subst ej
          have HF : Hid (F j = E) := HEC
          have hFE : F j = E := HEC.out
          rw [hFE]
          clear hFE HCS HCZ HCL hFj
          have HEX : Hid (¬ (((4 * x + j : Nat) : Int) < ((x : Int) + 1) * 4 ∧ ((4 * x + j : Nat) : Int) < (n : Int))) := hide (by omega)
          have hE4 : (E : Int) ≤ 4 := by omega
          have HCA : Hid (∀ u : Nat, u = E → 0 < u → CRow (wr.alloc (.cells #[.int .i64 (x : Int), .int .i64 (E : Int)] 47)) (.slice xa LL xc) (eL B n x)) := hide fun u _ _ => HC.out.kept fun g e => by
            obtain ⟨cs, hc⟩ := HC.out.blk e
            exact Below.heap_alloc _ _ g (Array.getElem?_eq_some_iff.1 hc).1
          by_cases hE : 0 < E
          · rw [if_pos hE] at HRL
            have hEi : 0 < (E : Int) := by omega
            have HAPP := hide (run_appendC (wr.alloc (.cells #[.int .i64 (x : Int), .int .i64 (E : Int)] 47)) 40 _ _ (HCA.out E rfl hE) ⟨wr.heap.size, 0, none⟩ 1 x E (fun j u hu => by
              rw [Addr.add_lit, Nat.zero_add, cell_of_row _ _ _ _ _ _ (Go.heap_alloc_new wr _)]
              simpa using hu) (by rw [HLL.out]; omega))
            obtain ⟨v2, w2, hr2, hC2, hA2⟩ := HAPP.out
            have HR2 := hide hr2
            have HC2 := hide hC2
            have HA2 := hide hA2
            clear HAPP hr2 hC2 hA2
            generalize hI4 : 4 * x + j = I4 at *
            by_cases q1 : (I4 : Int) < ((x : Int) + 1) * 4
            · have q2 : ¬ (I4 : Int) < (n : Int) := fun h => HEX.out ⟨q1, h⟩
              go_wp2_with (at_builtin; refine Go.Lib.wpList_append_run _ rfl (.tmp 48) (.tmp 52) 40 40 rfl _ _ rfl rfl _ _ HR2.out ?_)
              go_roundw
              case rel => exact ⟨x + 1, v2, rfl, by go_num, by omega, by rw [HRL.out]; exact HC2.out, HBL.out.trans ((((Below.refl wr.heap.size wr).alloc (Nat.le_refl _) _).mono HBL.out.size).trans (HA2.out.chg.below (N := w.heap.size) (by have := HBL.out.size; rw [World.size_alloc]; omega) HN.out)), fun g e => (HA2.out.loc g e).elim (HN.out g) (fun h => by have := HBL.out.size; rw [World.size_alloc] at h; omega)⟩
              case measure => simp [intOf]; omega
            · go_wp2_with (at_builtin; refine Go.Lib.wpList_append_run _ rfl (.tmp 48) (.tmp 52) 40 40 rfl _ _ rfl rfl _ _ HR2.out ?_)
              go_roundw
              case rel => exact ⟨x + 1, v2, rfl, by go_num, by omega, by rw [HRL.out]; exact HC2.out, HBL.out.trans ((((Below.refl wr.heap.size wr).alloc (Nat.le_refl _) _).mono HBL.out.size).trans (HA2.out.chg.below (N := w.heap.size) (by have := HBL.out.size; rw [World.size_alloc]; omega) HN.out)), fun g e => (HA2.out.loc g e).elim (HN.out g) (fun h => by have := HBL.out.size; rw [World.size_alloc] at h; omega)⟩
              case measure => simp [intOf]; omega
          · have hE0 : E = 0 := by omega
            rw [if_neg hE, List.append_nil] at HRL
            subst hE0
            generalize hI4 : 4 * x + j = I4 at *
            by_cases q1 : (I4 : Int) < ((x : Int) + 1) * 4
            · have q2 : ¬ (I4 : Int) < (n : Int) := fun h => HEX.out ⟨q1, h⟩
              go_wp2_with fail
              go_roundw
              case rel => exact ⟨x + 1, _, rfl, by go_num, by omega, by rw [HRL.out]; exact HC.out, HBL.out, HN.out⟩
              case measure => simp [intOf]; omega
            · go_wp2_with fail
              go_roundw
              case rel => exact ⟨x + 1, _, rfl, by go_num, by omega, by rw [HRL.out]; exact HC.out, HBL.out, HN.out⟩
              case measure => simp [intOf]; omega
    · have ex : x = X := by omega
      have hnl : ¬ (x : Int) * 4 < (n : Int) := by omega
      have HEX := hide ex
      clear ex
      go_wp2_with fail
      go_ret
      have hC := HC.out
      rw [HEX.out] at hC
      exact ⟨_, rfl, by rw [HEX.out, HXX.out]; exact hC, HBL.out, HN.out⟩
theorem rExt_bad {w : World} {v : Value} {l : List Nat} (n : Int) (hv : WSl w v l) (he : n < 1 ∨ 65536 < n ∨ cwErr n.toNat l ≠ 0) :
    Calls Tryd.prog 14 #[.int .i64 n, v] w fun e w' => e = .returned (.slice none 0 0) ∧ w' = w := by
  by_cases h1 : n < 1
  · obtain ⟨va, vcap, rfl, -⟩ := hv
    clear he
    generalize l.length = llen at *
    go_enter Tryd.func14, Tryd.ntmps14
    go_wp2_with fail
    go_ret
    exact ⟨rfl, rfl⟩
  · by_cases h2 : 65536 < n
    · obtain ⟨va, vcap, rfl, -⟩ := hv
      clear he
      generalize l.length = llen at *
      go_enter Tryd.func14, Tryd.ntmps14
      go_wp2_with fail
      go_ret
      exact ⟨rfl, rfl⟩
    · obtain ⟨m, rfl⟩ : ∃ m : Nat, n = (m : Int) := ⟨n.toNat, by omega⟩
      have g1 : 1 ≤ m := by omega
      have g2 : m ≤ 65536 := by omega
      have he' : cwErr m l ≠ 0 := by rcases he with h | h | h <;> first | omega | simpa using h
      have HL := hide (list_any m g1 g2 hv)
      have hne : (((cwErr m l : Nat) : Int) != 0) = true := by simpa using he'
      generalize cwErr m l = ee at *
      obtain ⟨va, vcap, rfl, -⟩ := hv
      clear he he' h1 h2
      generalize l.length = llen at *
      go_enter Tryd.func14, Tryd.ntmps14
      go_wp2_with (go_at_call 25; refine HL.out.mono ?_; rintro e w' ⟨rfl, rfl⟩)
      go_ret
      exact ⟨rfl, rfl⟩
end Go.Proofs.YtophcdfaflehcaaDoor
