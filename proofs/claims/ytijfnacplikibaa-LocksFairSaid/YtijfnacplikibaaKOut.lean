import Derived.Test.YtijfnacplikibaaKR3
namespace Go.Proofs.Ytijfnacplikibaa
open Go.RowKit
set_option linter.unusedVariables false
set_option linter.unusedSimpArgs false
set_option maxRecDepth 20000

theorem map_getD (l : List (Int × Int)) (k : Nat) : (l.map Prod.fst).getD k 0 = (l.getD k (0, 0)).1 ∧ (l.map Prod.snd).getD k 0 = (l.getD k (0, 0)).2 := by
  by_cases h : k < l.length
  · simp [List.getD, h]
  · simp [List.getD, List.getElem?_eq_none (Nat.le_of_not_lt h)]
def OutP (N q : Nat) (x : World) (P H : List (Int × Int)) (o : Int) (e : Ending) (y : World) : Prop := e = .returned (.tuple #[]) ∧ ∃ v1 v2 v3, LG N y q v1 v2 v3 ((wo P o).map Prod.fst) ((wo P o).map Prod.snd) ((wo H o).map Prod.fst) ∧ Chg (fun g => g = q) x y ∧ ∀ g, LU q v1 v2 v3 g → g = q ∨ x.heap.size ≤ g
set_option maxHeartbeats 4000000 in
theorem out_any {N q : Nat} {x : World} {wv mv hv : Value} {P H : List (Int × Int)} (h : LG N x q wv mv hv (P.map Prod.fst) (P.map Prod.snd) (H.map Prod.fst)) (hN : N ≤ x.heap.size) (hP : P.length ≤ 1000000) (hH : H.length ≤ 1000000) (o : Int) :
    Calls Try.prog 31 #[.pointer (some ⟨q, 0, none⟩), .int .i64 o] x (OutP N q x P H o) := by
  obtain ⟨wa, wc, rfl, w1, w2, -⟩ := h.ow.form
  obtain ⟨ma, mc, rfl, m1, m2, -⟩ := h.om.form
  obtain ⟨ha, hc, rfl, u1, u2, -⟩ := h.oh.form
  unfold maxLen at w2 m2 u2
  have HG := hide h
  have HN := hide hN
  rw [List.length_map] at w1 m1 u1
  have c0 := h.c0
  have c1 := h.c1
  have c2 := h.c2
  rw [List.length_map] at c0 c1 c2
  clear h hN
  have HR0 : Hid (R3 x x (.slice none 0 0) (.slice none 0 0) (.slice none 0 0) ((wo (P.take 0) o).map Prod.fst) ((wo (P.take 0) o).map Prod.snd) []) := hide (R3.nil x)
  have HWL : Hid (∀ k, ((wo (P.take k) o).map Prod.fst).length ≤ 1000000 ∧ ((wo (P.take k) o).map Prod.snd).length ≤ 1000000) := hide fun k => by
    have h1 := List.length_filter_le (fun c : Int × Int => c.1 != o) (P.take k)
    have h2 : (P.take k).length ≤ P.length := by simp [Nat.min_le_right]
    unfold wo
    rw [List.length_map, List.length_map]
    omega
  have HHL : Hid (∀ k, ((wo (H.take k) o).map Prod.fst).length ≤ 1000000) := hide fun k => by
    have h1 := List.length_filter_le (fun c : Int × Int => c.1 != o) (H.take k)
    have h2 : (H.take k).length ≤ H.length := by simp [Nat.min_le_right]
    unfold wo
    rw [List.length_map]
    omega
  have HWS := hide fun (k : Nat) (hk : k < P.length) => wo_step P o hk
  have HHS := hide fun (k : Nat) (hk : k < H.length) => wo_step H o hk
  have HPM := hide (map_getD P)
  have HHM := hide (map_getD H)
  have HC : Hid (∀ wr, Below x.heap.size x wr → wr.cell? ⟨q, 0, none⟩ = some (.slice wa P.length wc) ∧ wr.cell? ⟨q, 1, none⟩ = some (.slice ma P.length mc) ∧ wr.cell? ⟨q, 2, none⟩ = some (.slice ha H.length hc)) := hide fun wr hb => by
    have h := HG.out.below hb
    have a0 := h.c0
    have a1 := h.c1
    have a2 := h.c2
    rw [List.length_map] at a0 a1 a2
    exact ⟨a0, a1, a2⟩
  have HCW : Hid (∀ wr, Below x.heap.size x wr → ∀ k, k < P.length → ∃ g off, wa = some ⟨g, off, none⟩ ∧ wr.cell? ⟨g, off + k, none⟩ = some (.int .i64 (P.getD k (0, 0)).1)) := hide fun wr hb k hk => by
    obtain ⟨g, off, cap, e, -, hcl⟩ := (HG.out.below hb).ow.cell (j := k) (by rw [List.length_map]; exact hk)
    injection e with e1 e2 e3
    exact ⟨g, off, e1, by rw [hcl, (HPM.out k).1]⟩
  have HCM : Hid (∀ wr, Below x.heap.size x wr → ∀ k, k < P.length → ∃ g off, ma = some ⟨g, off, none⟩ ∧ wr.cell? ⟨g, off + k, none⟩ = some (.int .i64 (P.getD k (0, 0)).2)) := hide fun wr hb k hk => by
    obtain ⟨g, off, cap, e, -, hcl⟩ := (HG.out.below hb).om.cell (j := k) (by rw [List.length_map]; exact hk)
    injection e with e1 e2 e3
    exact ⟨g, off, e1, by rw [hcl, (HPM.out k).2]⟩
  have HCH : Hid (∀ wr, Below x.heap.size x wr → ∀ k, k < H.length → ∃ g off, ha = some ⟨g, off, none⟩ ∧ wr.cell? ⟨g, off + k, none⟩ = some (.int .i64 (H.getD k (0, 0)).1)) := hide fun wr hb k hk => by
    obtain ⟨g, off, cap, e, -, hcl⟩ := (HG.out.below hb).oh.cell (j := k) (by rw [List.length_map]; exact hk)
    injection e with e1 e2 e3
    exact ⟨g, off, e1, by rw [hcl, (HHM.out k).1]⟩
  have HTP : Hid (P.take P.length = P) := hide List.take_length
  have HTH : Hid (H.take H.length = H) := hide List.take_length
  generalize hpn : P.length = pn at *
  generalize hhn : H.length = hn at *
  clear hpn hhn
  go_enter Try.func31, Try.ntmps31
  go_wp2_with fail
  go_loopw [4, 5, 7] (fun a b y wr => ∃ k : Nat, k ≤ pn ∧ y = .int .i64 (k : Int) ∧ Hid (R3 x wr a b (.slice none 0 0) ((wo (P.take k) o).map Prod.fst) ((wo (P.take k) o).map Prod.snd) [])) (fun _ _ y _ => pn - (intOf y).toNat)
  case atStart => exact ⟨0, Nat.zero_le _, rfl, HR0⟩
  case round =>
    clear HR0 c0 c1 c2
    obtain ⟨k, hk, rfl, HR⟩ := hrel
    obtain ⟨w2, hw2⟩ : ∃ w2, wr = w2 := ⟨_, rfl⟩
    rw [hw2] at HR ⊢
    clear hw2
    obtain ⟨c0, c1, c2⟩ := HC.out _ HR.out.bel
    by_cases hlt : k < pn
    · have hli : (k : Int) < (pn : Int) := by omega
      obtain ⟨g, off, rfl, d0⟩ := HCW.out _ HR.out.bel k hlt
      obtain ⟨g1, off1, rfl, d1⟩ := HCM.out _ HR.out.bel k hlt
      have HD1 : Hid (∀ wr, Below x.heap.size x wr → wr.cell? ⟨g1, off1 + k, none⟩ = some (.int .i64 (P.getD k (0, 0)).2)) := hide fun wr hb => by
        obtain ⟨g', off', e, d⟩ := HCM.out wr hb k hlt
        simp only [Option.some.injEq, Addr.mk.injEq, and_true] at e
        obtain ⟨rfl, rfl⟩ := e
        exact d
      have hst := HWS.out k hlt
      by_cases hxo : (P.getD k (0, 0)).1 = o
      · rw [if_pos hxo] at hst
        have HST := hide hst
        have hne : ((P.getD k (0, 0)).1 != o) = false := by simpa using hxo
        clear hst hxo d1
        generalize (P.getD k (0, 0)).1 = a at *
        go_wp2_with fail
        go_roundw
        case rel => exact ⟨k + 1, by omega, by go_num, hide (by rw [HST.out]; exact HR.out)⟩
        case measure => simp [intOf]; omega
      · rw [if_neg hxo] at hst
        have HST := hide hst
        have hne : ((P.getD k (0, 0)).1 != o) = true := by simpa using hxo
        clear hst hxo
        have hwl := HWL.out k
        generalize hpk : P.getD k (0, 0) = c at *
        obtain ⟨a, b⟩ := c
        dsimp only at d0 d1 hne HD1
        have HST2 : Hid ((wo (P.take (k + 1)) o).map Prod.fst = (wo (P.take k) o).map Prod.fst ++ [a] ∧ (wo (P.take (k + 1)) o).map Prod.snd = (wo (P.take k) o).map Prod.snd ++ [b]) := hide (by rw [HST.out]; simp)
        clear hpk HST
        generalize (wo (P.take k) o).map Prod.fst = A at *
        generalize (wo (P.take k) o).map Prod.snd = B at *
        have HR1 := hide (HR.out.calm (alloc_calm w2 (.cells #[.int .i64 a] 3)))
        go_wp2_with (first
          | (at_builtin; refine wpList_appendO _ rfl (.tmp 27) (.tmp 35) rfl _ _ rfl HR1.out.o1 ⟨w2.heap.size, 0, none⟩ 1 a rfl (new_int w2 _) (by omega) ?_; intro v4 w3 ho3 ha3; have HR2 := hide (HR1.out.app ho3 ha3); obtain ⟨c0, c1, c2⟩ := HC.out _ HR2.out.bel; have HR3 := hide ((HR2.out.calm (alloc_calm w3 (.cells #[.int .i64 b] 3))).rot); have d1 := HD1.out _ HR2.out.bel; clear ho3 ha3 HR1)
          | (at_builtin; refine wpList_appendO _ rfl (.tmp 37) (.tmp 45) rfl _ _ rfl HR3.out.o1 ⟨w3.heap.size, 0, none⟩ 1 b rfl (new_int w3 _) (by omega) ?_; intro v5 w5 ho5 ha5; have HR5 := hide ((HR3.out.app ho5 ha5).rot.rot); clear ho5 ha5))
        go_roundw
        case rel => exact ⟨k + 1, by omega, by go_num, hide (by rw [HST2.out.1, HST2.out.2]; exact HR5.out)⟩
        case measure => simp [intOf]; omega
    · have hli : ¬ (k : Int) < (pn : Int) := by omega
      have ek : k = pn := by omega
      have HR7 : Hid (R3 x w2 (.slice none 0 0) u4 u5 ((wo (H.take 0) o).map Prod.fst) ((wo P o).map Prod.fst) ((wo P o).map Prod.snd)) := hide (by
        have h := HR.out.rot.rot
        rw [ek, HTP.out] at h
        exact h)
      clear HR ek hlt hk HCW HCM HWS HWL HPM
      go_wp2_with fail
      go_loopw [6, 8] (fun a y wr => ∃ j : Nat, j ≤ hn ∧ y = .int .i64 (j : Int) ∧ Hid (R3 x wr a u4 u5 ((wo (H.take j) o).map Prod.fst) ((wo P o).map Prod.fst) ((wo P o).map Prod.snd))) (fun _ y _ => hn - (intOf y).toNat)
      case atStart => exact ⟨0, Nat.zero_le _, rfl, HR7⟩
      case round =>
        clear HR7 c0 c1 c2
        obtain ⟨j, hj, rfl, HR⟩ := hrel
        obtain ⟨w8, hw8⟩ : ∃ w8, wr = w8 := ⟨_, rfl⟩
        rw [hw8] at HR ⊢
        clear hw8
        obtain ⟨c0, c1, c2⟩ := HC.out _ HR.out.bel
        by_cases hlt : j < hn
        · have hlj : (j : Int) < (hn : Int) := by omega
          obtain ⟨g, off, rfl, d0⟩ := HCH.out _ HR.out.bel j hlt
          have hst := HHS.out j hlt
          have hwl := HHL.out j
          by_cases hxo : (H.getD j (0, 0)).1 = o
          · rw [if_pos hxo] at hst
            have HST := hide hst
            have hne : ((H.getD j (0, 0)).1 != o) = false := by simpa using hxo
            clear hst hxo hwl
            generalize (H.getD j (0, 0)).1 = a at *
            go_wp2_with fail
            go_roundw
            case rel => exact ⟨j + 1, by omega, by go_num, hide (by rw [HST.out]; exact HR.out)⟩
            case measure => simp [intOf]; omega
          · rw [if_neg hxo] at hst
            have hne : ((H.getD j (0, 0)).1 != o) = true := by simpa using hxo
            have HST2 : Hid ((wo (H.take (j + 1)) o).map Prod.fst = (wo (H.take j) o).map Prod.fst ++ [(H.getD j (0, 0)).1]) := hide (by rw [hst]; simp)
            clear hst hxo
            generalize (H.getD j (0, 0)).1 = a at *
            generalize (wo (H.take j) o).map Prod.fst = A at *
            have HR1 := hide (HR.out.calm (alloc_calm w8 (.cells #[.int .i64 a] 3)))
            go_wp2_with (at_builtin; refine wpList_appendO _ rfl (.tmp 65) (.tmp 73) rfl _ _ rfl HR1.out.o1 ⟨w8.heap.size, 0, none⟩ 1 a rfl (new_int w8 _) (by omega) ?_; intro v4 w3 ho3 ha3; have HR2 := hide (HR1.out.app ho3 ha3); clear ho3 ha3 HR1)
            go_roundw
            case rel => exact ⟨j + 1, by omega, by go_num, hide (by rw [HST2.out]; exact HR2.out)⟩
            case measure => simp [intOf]; omega
        · have hlj : ¬ (j : Int) < (hn : Int) := by omega
          have ej : j = hn := by omega
          have HR9 : Hid (R3 x w8 u4 u5 u6 ((wo P o).map Prod.fst) ((wo P o).map Prod.snd) ((wo H o).map Prod.fst)) := hide (by
            have h := HR.out.rot
            rw [ej, HTH.out] at h
            exact h)
          clear HR ej hlt hj HCH HHS HHL HHM HC HTP HTH
          obtain ⟨a4, k4, e4, -⟩ := HR9.out.o1.form
          obtain ⟨a5, k5, e5, -⟩ := HR9.out.o2.form
          obtain ⟨a6, k6, e6, -⟩ := HR9.out.o3.form
          obtain ⟨z0, z1, z2, y0, y1, y2, hL, hC⟩ := HG.out.all HR9.out HN.out
          rw [List.length_map] at z0 z1 z2
          have HL := hide hL
          have HCC := hide hC
          have HFR : Hid (∀ g, LU q u4 u5 u6 g → g = q ∨ x.heap.size ≤ g) := hide fun g e => by
            rcases e with e | e | e | e
            · exact .inl e
            · exact .inr (HR9.out.n1 g e)
            · exact .inr (HR9.out.n2 g e)
            · exact .inr (HR9.out.n3 g e)
          clear hL hC HR9 c0 c1
          generalize ((wo P o).map Prod.fst).length = n4 at *
          generalize ((wo P o).map Prod.snd).length = n5 at *
          generalize ((wo H o).map Prod.fst).length = n6 at *
          subst e4 e5 e6

          go_wp2_with fail
          go_end0
          exact ⟨rfl, _, _, _, HL.out, HCC.out, HFR.out⟩
end Go.Proofs.Ytijfnacplikibaa
