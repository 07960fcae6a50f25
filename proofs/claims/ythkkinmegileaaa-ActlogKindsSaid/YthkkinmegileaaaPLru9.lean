import Derived.Test.YthkkinmegileaaaPLru8
import Derived.Test.YthkkinmegileaaaARef7
namespace Go.Proofs.Ythkkinmegileaaa.Sp
open Go.RowKit Go.Sort
set_option linter.unusedVariables false
set_option linter.unusedSimpArgs false
set_option maxRecDepth 20000

theorem LLoc.refl {w : World} {p bm : Nat} {kv rv iv iv' : Value} (h : iv'.ownBlock = iv.ownBlock) : LLoc w p bm kv rv iv kv rv iv' := by
  rintro b (e | e | e | e | e)
  · exact .inl (.inl e)
  · exact .inl (.inr (.inl e))
  · exact .inl (.inr (.inr (.inl e)))
  · exact .inl (.inr (.inr (.inr (.inl e))))
  · exact .inl (.inr (.inr (.inr (.inr (h ▸ e)))))
/-- what the map says of a key -/
theorem LRep.look {w : World} {p bm : Nat} {kv rv iv : Value} {S : LS} {M : Nat} (h : LRep w p bm kv rv iv S) (hS : S.Ok M) (key : Int) : ∃ D : DataW Unit, w.ownsMap Try.prog 34 (plainElem Try.prog 3) bm 16 D ∧ (∀ s : Nat, S.ks[s]? = some key → Maps.has D (kL key) = true ∧ ∀ c, D.atKey (kL key) (.lit (.int .i64 0)) = .lit (.int .i64 c) → c = s) ∧ (key ∉ S.ks → Maps.has D (kL key) = false ∧ ∀ c, D.atKey (kL key) (.lit (.int .i64 0)) = .lit (.int .i64 c) → c = 0) := by
  obtain ⟨D, hown, hDs, hD1, hD2⟩ := h.mp
  rw [hS.me] at hDs hD1 hD2
  refine ⟨D, hown, fun s hs => ⟨(hD1 s key hs).1, fun c hc => ?_⟩, fun hn => ⟨hD2 key hn, fun c hc => ?_⟩⟩
  · rw [(hD1 s key hs).2] at hc
    simpa using hc.symm
  · rw [Maps.atKey_of_not_has (hD2 key hn)] at hc
    simpa using hc.symm
theorem yieldsIf_lookup {P : Program} {ops : Array Oper} {S : World → Prop} {o : Oper} {a : Act} (hw : Region.wanted o (yielded ops a.tmps) = true) (m x : Operand) (t : TypeId) (hop : o.op = Op.lookup t m x true)
    (k e : TypeId) (K : Maps.Keyed P k) (ht : P.underlying t = some (.map k e)) (he : P.underlying e = some (.int .i64)) (hz : ∀ w, (zeroValue e).run P w = .ok (.int .i64 0) w) (b n : Nat) (D : DataW Unit)
    (hm : a.eval m = .map (some b)) (hS : ∀ w, S w → w.ownsMap P k (plainElem P e) b n D) (key : Value) (kl : Lit) (hx : a.eval x = key) (hkey : keyOf P k key = some kl) (c : Int) (hc : ∀ c', D.atKey kl (.lit (.int .i64 0)) = .lit (.int .i64 c') → c' = c)
    {hs : Bool} (hh : Maps.has D kl = hs) : YieldsIf P ops S o (.tuple #[.int .i64 c, .bool hs]) a := by
  subst hh
  refine .inl ⟨hw, fun w hs => ?_⟩
  obtain ⟨v, ps, hrun, hv⟩ := (hS w hs).look_ok K ht (hz w) (plainElem_int he (by decide)) hkey
  obtain ⟨c', rfl, h1, -⟩ := plainElem_int_inv he hv
  obtain rfl := hc c' (congrArg Prod.fst h1)
  unfold execOp
  simp [hop, hm, hx, hrun, Result.andThen]
/-- what stands behind the key's box -/
theorem LRep.boxed {w : World} {p bm : Nat} {kv rv iv : Value} {S : LS} (h : LRep w p bm kv rv iv S) (key : Int) {D : DataW Unit} (ho : w.ownsMap Try.prog 34 (plainElem Try.prog 3) bm 16 D) (z : World) (hz : z = (w.alloc (.cells #[.int .i64 (pA key), .int .u8 (pB key)] 34))) :
    z.cell? ⟨w.heap.size, 0, none⟩ = some (.int .i64 (pA key)) ∧ z.cell? ⟨w.heap.size, 1, none⟩ = some (.int .u8 (pB key)) ∧ z.cell? ⟨p, 1, none⟩ = some (.map (some bm)) ∧ z.ownsMap Try.prog 34 (plainElem Try.prog 3) bm 16 D := by
  subst hz
  have hb := (Below.refl w.heap.size w).alloc (Nat.le_refl _) (.cells #[.int .i64 (pA key), .int .u8 (pB key)] 34)
  have hn := Go.heap_alloc_new w (.cells #[.int .i64 (pA key), .int .u8 (pB key)] 34)
  refine ⟨by rw [cell_of_row _ _ _ _ _ _ hn]; rfl, by rw [cell_of_row _ _ _ _ _ _ hn]; rfl, (h.below hb).c 1, ?_⟩
  obtain ⟨es, clock, h1, r⟩ := ho
  exact ⟨es, clock, (hb.block _ (Array.getElem?_eq_some_iff.1 h1).1).trans h1, r⟩
set_option maxHeartbeats 1000000 in
theorem Slot_any {w : World} {p bm : Nat} {kv rv iv : Value} {S : LS} {M : Nat} {key : Int} (h : LRep w p bm kv rv iv S) (hS : S.Ok M) (hk : i64ok key) :
    Calls Try.prog 34 #[.pointer (some ⟨p, 0, none⟩), .agg #[.int .i64 (pA key), .int .u8 (pB key)]] w fun e w' => ∃ r, e = .returned (.int .i64 r) ∧ Below w.heap.size w w' ∧ SRes S key r := by
  have hkey := keyS hk
  obtain ⟨D, hown, hD1, hD2⟩ := h.look hS key
  have HS0 := hide (h.boxed key hown _ rfl)
  have HB := hide ((Below.refl w.heap.size w).alloc (Nat.le_refl _) (.cells #[.int .i64 (pA key), .int .u8 (pB key)] 34))
  by_cases hin : key ∈ S.ks
  · obtain ⟨s, hs⟩ := List.getElem?_of_mem hin
    obtain ⟨hh, hc⟩ := hD1 s hs
    have HF : Hid (SRes S key (s : Int)) := hide (.inl ⟨s, hs, rfl⟩)
    clear h hS hs hD1 hD2 hin hown
    go_enter Try.func34, Try.ntmps34
    go_wp2_with fail
    refine wp_region_held_drew (S := fun z => z.cell? ⟨w.heap.size, 0, none⟩ = some (.int .i64 (pA key)) ∧ z.cell? ⟨w.heap.size, 1, none⟩ = some (.int .u8 (pB key)) ∧ z.cell? ⟨p, 1, none⟩ = some (.map (some bm)) ∧ z.ownsMap Try.prog 34 (plainElem Try.prog 3) bm 16 D) (by kernel_rfl) HS0.out (fun hHeld => ?_)
    refine wpAnyH_take (i := 0) (v := .pointer (some ⟨p, 0, none⟩)) rfl (by kernel_rfl) (by kernel_rfl) (by kernel_rfl) (fun _ _ _ h => h) (Or.inl ⟨by rfl, ?ha0⟩) hHeld ?ra0
    case ha0 => intro w' hSw; obtain ⟨e0, e1, e2, e3⟩ := hSw; go_simp; (try with_reducible rfl)
    (try simp only [Act.put, List.getElem_toArray, List.getElem_cons_succ, List.getElem_cons_zero, List.setIfInBounds_toArray, List.set_cons_zero, List.set_cons_succ])
    refine wpAnyH_take (i := 1) (v := .pointer (some ⟨p, 0, none⟩)) rfl (by kernel_rfl) (by kernel_rfl) (by kernel_rfl) (fun _ _ _ h => h) (Or.inl ⟨by rfl, ?ha1⟩) hHeld ?ra1
    case ha1 => intro w' hSw; obtain ⟨e0, e1, e2, e3⟩ := hSw; go_simp; (try with_reducible rfl)
    (try simp only [Act.put, List.getElem_toArray, List.getElem_cons_succ, List.getElem_cons_zero, List.setIfInBounds_toArray, List.set_cons_zero, List.set_cons_succ])
    refine wpAnyH_take (i := 2) (v := .pointer (some ⟨p, 1, none⟩)) rfl (by kernel_rfl) (by kernel_rfl) (by kernel_rfl) (fun _ _ _ h => h) (Or.inl ⟨by rfl, ?ha2⟩) hHeld ?ra2
    case ha2 => intro w' hSw; obtain ⟨e0, e1, e2, e3⟩ := hSw; go_simp; (try with_reducible rfl)
    (try simp only [Act.put, List.getElem_toArray, List.getElem_cons_succ, List.getElem_cons_zero, List.setIfInBounds_toArray, List.set_cons_zero, List.set_cons_succ])
    refine wpAnyH_take (i := 3) (v := .map (some bm)) rfl (by kernel_rfl) (by kernel_rfl) (by kernel_rfl) (fun _ _ _ h => h) (Or.inl ⟨by rfl, ?ha3⟩) hHeld ?ra3
    case ha3 => intro w' hSw; obtain ⟨e0, e1, e2, e3⟩ := hSw; go_simp; (try with_reducible rfl)
    (try simp only [Act.put, List.getElem_toArray, List.getElem_cons_succ, List.getElem_cons_zero, List.setIfInBounds_toArray, List.set_cons_zero, List.set_cons_succ])
    refine wpAnyH_take (i := 4) (v := .agg #[.int .i64 (pA key), .int .u8 (pB key)]) rfl (by kernel_rfl) (by kernel_rfl) (by kernel_rfl) (fun _ _ _ h => h) (Or.inl ⟨by rfl, ?ha4⟩) hHeld ?ra4
    case ha4 => intro w' hSw; obtain ⟨e0, e1, e2, e3⟩ := hSw; go_simp; (try with_reducible rfl)
    (try simp only [Act.put, List.getElem_toArray, List.getElem_cons_succ, List.getElem_cons_zero, List.setIfInBounds_toArray, List.set_cons_zero, List.set_cons_succ])
    refine wpAnyH_take (i := 5) (v := .tuple #[.int .i64 (s : Int), .bool true]) rfl (by kernel_rfl) (by kernel_rfl) (by kernel_rfl) (fun _ _ _ h => h) ?ha5 hHeld ?ra5
    case ha5 =>
      exact yieldsIf_lookup (by kernel_rfl) (.tmp 11) (.tmp 12) 75 rfl 34 3 kStr Try.underlying75 Try.underlying3 zeroI bm 16 D (by kernel_rfl) (fun z hz => hz.2.2.2) _ (kL key) (by kernel_rfl) hkey _ hc hh
    (try simp only [Act.put, List.getElem_toArray, List.getElem_cons_succ, List.getElem_cons_zero, List.setIfInBounds_toArray, List.set_cons_zero, List.set_cons_succ])
    refine wpAnyH_take (i := 6) (v := .tuple #[.int .i64 (s : Int), .bool true]) rfl (by kernel_rfl) (by kernel_rfl) (by kernel_rfl) (fun _ _ _ h => h) (Or.inl ⟨by rfl, ?ha6⟩) hHeld ?ra6
    case ha6 => intro w' hSw; obtain ⟨e0, e1, e2, e3⟩ := hSw; go_simp; (try with_reducible rfl)
    (try simp only [Act.put, List.getElem_toArray, List.getElem_cons_succ, List.getElem_cons_zero, List.setIfInBounds_toArray, List.set_cons_zero, List.set_cons_succ])
    refine wpAnyH_take (i := 7) (v := .int .i64 (s : Int)) rfl (by kernel_rfl) (by kernel_rfl) (by kernel_rfl) (fun _ _ _ h => h) (Or.inl ⟨by rfl, ?ha7⟩) hHeld ?ra7
    case ha7 => intro w' hSw; obtain ⟨e0, e1, e2, e3⟩ := hSw; go_simp; (try with_reducible rfl)
    (try simp only [Act.put, List.getElem_toArray, List.getElem_cons_succ, List.getElem_cons_zero, List.setIfInBounds_toArray, List.set_cons_zero, List.set_cons_succ])
    refine wpAnyH_take (i := 8) (v := .bool true) rfl (by kernel_rfl) (by kernel_rfl) (by kernel_rfl) (fun _ _ _ h => h) (Or.inl ⟨by rfl, ?ha8⟩) hHeld ?ra8
    case ha8 => intro w' hSw; obtain ⟨e0, e1, e2, e3⟩ := hSw; go_simp; (try with_reducible rfl)
    (try simp only [Act.put, List.getElem_toArray, List.getElem_cons_succ, List.getElem_cons_zero, List.setIfInBounds_toArray, List.set_cons_zero, List.set_cons_succ])
    refine wpAnyH_take (i := 9) (v := .int .i64 (s : Int)) rfl (by kernel_rfl) (by kernel_rfl) (by kernel_rfl) (fun _ _ _ h => h) (Or.inl ⟨by rfl, ?ha9⟩) hHeld ?ra9
    case ha9 => intro w' hSw; obtain ⟨e0, e1, e2, e3⟩ := hSw; go_simp; (try with_reducible rfl)
    (try simp only [Act.put, List.getElem_toArray, List.getElem_cons_succ, List.getElem_cons_zero, List.setIfInBounds_toArray, List.set_cons_zero, List.set_cons_succ])
    refine wpAnyH_take (i := 10) (v := .bool true) rfl (by kernel_rfl) (by kernel_rfl) (by kernel_rfl) (fun _ _ _ h => h) (Or.inl ⟨by rfl, ?ha10⟩) hHeld ?ra10
    case ha10 => intro w' hSw; obtain ⟨e0, e1, e2, e3⟩ := hSw; go_simp; (try with_reducible rfl)
    (try simp only [Act.put, List.getElem_toArray, List.getElem_cons_succ, List.getElem_cons_zero, List.setIfInBounds_toArray, List.set_cons_zero, List.set_cons_succ])
    refine wpAnyH_done ?hra ?hqa _
    case hra => kernel_rfl
    case hqa =>
    (try simp only [Act.put, List.getElem_toArray, List.getElem_cons_succ, List.getElem_cons_zero, List.setIfInBounds_toArray, List.set_cons_zero, List.set_cons_succ])
    clear hHeld hc hh HS0
    go_wp2_with fail
    go_ret
    exact ⟨_, rfl, HB.out.drew, HF.out⟩
  · obtain ⟨hh, hc⟩ := hD2 hin
    have HF : Hid (SRes S key (-1)) := hide (.inr ⟨hin, rfl⟩)
    clear h hS hD1 hD2 hin hown
    go_enter Try.func34, Try.ntmps34
    go_wp2_with fail
    refine wp_region_held_drew (S := fun z => z.cell? ⟨w.heap.size, 0, none⟩ = some (.int .i64 (pA key)) ∧ z.cell? ⟨w.heap.size, 1, none⟩ = some (.int .u8 (pB key)) ∧ z.cell? ⟨p, 1, none⟩ = some (.map (some bm)) ∧ z.ownsMap Try.prog 34 (plainElem Try.prog 3) bm 16 D) (by kernel_rfl) HS0.out (fun hHeld => ?_)
    refine wpAnyH_take (i := 0) (v := .pointer (some ⟨p, 0, none⟩)) rfl (by kernel_rfl) (by kernel_rfl) (by kernel_rfl) (fun _ _ _ h => h) (Or.inl ⟨by rfl, ?hb0⟩) hHeld ?rb0
    case hb0 => intro w' hSw; obtain ⟨e0, e1, e2, e3⟩ := hSw; go_simp; (try with_reducible rfl)
    (try simp only [Act.put, List.getElem_toArray, List.getElem_cons_succ, List.getElem_cons_zero, List.setIfInBounds_toArray, List.set_cons_zero, List.set_cons_succ])
    refine wpAnyH_take (i := 1) (v := .pointer (some ⟨p, 0, none⟩)) rfl (by kernel_rfl) (by kernel_rfl) (by kernel_rfl) (fun _ _ _ h => h) (Or.inl ⟨by rfl, ?hb1⟩) hHeld ?rb1
    case hb1 => intro w' hSw; obtain ⟨e0, e1, e2, e3⟩ := hSw; go_simp; (try with_reducible rfl)
    (try simp only [Act.put, List.getElem_toArray, List.getElem_cons_succ, List.getElem_cons_zero, List.setIfInBounds_toArray, List.set_cons_zero, List.set_cons_succ])
    refine wpAnyH_take (i := 2) (v := .pointer (some ⟨p, 1, none⟩)) rfl (by kernel_rfl) (by kernel_rfl) (by kernel_rfl) (fun _ _ _ h => h) (Or.inl ⟨by rfl, ?hb2⟩) hHeld ?rb2
    case hb2 => intro w' hSw; obtain ⟨e0, e1, e2, e3⟩ := hSw; go_simp; (try with_reducible rfl)
    (try simp only [Act.put, List.getElem_toArray, List.getElem_cons_succ, List.getElem_cons_zero, List.setIfInBounds_toArray, List.set_cons_zero, List.set_cons_succ])
    refine wpAnyH_take (i := 3) (v := .map (some bm)) rfl (by kernel_rfl) (by kernel_rfl) (by kernel_rfl) (fun _ _ _ h => h) (Or.inl ⟨by rfl, ?hb3⟩) hHeld ?rb3
    case hb3 => intro w' hSw; obtain ⟨e0, e1, e2, e3⟩ := hSw; go_simp; (try with_reducible rfl)
    (try simp only [Act.put, List.getElem_toArray, List.getElem_cons_succ, List.getElem_cons_zero, List.setIfInBounds_toArray, List.set_cons_zero, List.set_cons_succ])
    refine wpAnyH_take (i := 4) (v := .agg #[.int .i64 (pA key), .int .u8 (pB key)]) rfl (by kernel_rfl) (by kernel_rfl) (by kernel_rfl) (fun _ _ _ h => h) (Or.inl ⟨by rfl, ?hb4⟩) hHeld ?rb4
    case hb4 => intro w' hSw; obtain ⟨e0, e1, e2, e3⟩ := hSw; go_simp; (try with_reducible rfl)
    (try simp only [Act.put, List.getElem_toArray, List.getElem_cons_succ, List.getElem_cons_zero, List.setIfInBounds_toArray, List.set_cons_zero, List.set_cons_succ])
    refine wpAnyH_take (i := 5) (v := .tuple #[.int .i64 0, .bool false]) rfl (by kernel_rfl) (by kernel_rfl) (by kernel_rfl) (fun _ _ _ h => h) ?hb5 hHeld ?rb5
    case hb5 =>
      exact yieldsIf_lookup (by kernel_rfl) (.tmp 11) (.tmp 12) 75 rfl 34 3 kStr Try.underlying75 Try.underlying3 zeroI bm 16 D (by kernel_rfl) (fun z hz => hz.2.2.2) _ (kL key) (by kernel_rfl) hkey _ hc hh
    (try simp only [Act.put, List.getElem_toArray, List.getElem_cons_succ, List.getElem_cons_zero, List.setIfInBounds_toArray, List.set_cons_zero, List.set_cons_succ])
    refine wpAnyH_take (i := 6) (v := .tuple #[.int .i64 0, .bool false]) rfl (by kernel_rfl) (by kernel_rfl) (by kernel_rfl) (fun _ _ _ h => h) (Or.inl ⟨by rfl, ?hb6⟩) hHeld ?rb6
    case hb6 => intro w' hSw; obtain ⟨e0, e1, e2, e3⟩ := hSw; go_simp; (try with_reducible rfl)
    (try simp only [Act.put, List.getElem_toArray, List.getElem_cons_succ, List.getElem_cons_zero, List.setIfInBounds_toArray, List.set_cons_zero, List.set_cons_succ])
    refine wpAnyH_take (i := 7) (v := .int .i64 0) rfl (by kernel_rfl) (by kernel_rfl) (by kernel_rfl) (fun _ _ _ h => h) (Or.inl ⟨by rfl, ?hb7⟩) hHeld ?rb7
    case hb7 => intro w' hSw; obtain ⟨e0, e1, e2, e3⟩ := hSw; go_simp; (try with_reducible rfl)
    (try simp only [Act.put, List.getElem_toArray, List.getElem_cons_succ, List.getElem_cons_zero, List.setIfInBounds_toArray, List.set_cons_zero, List.set_cons_succ])
    refine wpAnyH_take (i := 8) (v := .bool false) rfl (by kernel_rfl) (by kernel_rfl) (by kernel_rfl) (fun _ _ _ h => h) (Or.inl ⟨by rfl, ?hb8⟩) hHeld ?rb8
    case hb8 => intro w' hSw; obtain ⟨e0, e1, e2, e3⟩ := hSw; go_simp; (try with_reducible rfl)
    (try simp only [Act.put, List.getElem_toArray, List.getElem_cons_succ, List.getElem_cons_zero, List.setIfInBounds_toArray, List.set_cons_zero, List.set_cons_succ])
    refine wpAnyH_take (i := 9) (v := .int .i64 0) rfl (by kernel_rfl) (by kernel_rfl) (by kernel_rfl) (fun _ _ _ h => h) (Or.inl ⟨by rfl, ?hb9⟩) hHeld ?rb9
    case hb9 => intro w' hSw; obtain ⟨e0, e1, e2, e3⟩ := hSw; go_simp; (try with_reducible rfl)
    (try simp only [Act.put, List.getElem_toArray, List.getElem_cons_succ, List.getElem_cons_zero, List.setIfInBounds_toArray, List.set_cons_zero, List.set_cons_succ])
    refine wpAnyH_take (i := 10) (v := .bool false) rfl (by kernel_rfl) (by kernel_rfl) (by kernel_rfl) (fun _ _ _ h => h) (Or.inl ⟨by rfl, ?hb10⟩) hHeld ?rb10
    case hb10 => intro w' hSw; obtain ⟨e0, e1, e2, e3⟩ := hSw; go_simp; (try with_reducible rfl)
    (try simp only [Act.put, List.getElem_toArray, List.getElem_cons_succ, List.getElem_cons_zero, List.setIfInBounds_toArray, List.set_cons_zero, List.set_cons_succ])
    refine wpAnyH_done ?hrb ?hqb _
    case hrb => kernel_rfl
    case hqb =>
    (try simp only [Act.put, List.getElem_toArray, List.getElem_cons_succ, List.getElem_cons_zero, List.setIfInBounds_toArray, List.set_cons_zero, List.set_cons_succ])
    clear hHeld hc hh HS0
    go_wp2_with fail
    go_ret
    exact ⟨_, rfl, HB.out.drew, HF.out⟩
end Go.Proofs.Ythkkinmegileaaa.Sp
