import Derived.Test.YtepgiomgkgfioaaDoorDFn
namespace Go.Proofs.YtepgiomgkgfioaaDoor.K
open Go.RowKit Go.Maps
set_option linter.unusedVariables false
set_option linter.unusedSimpArgs false
set_option maxRecDepth 20000

theorem wf_k {k : Nat} (hk : k < 9223372036854775808) : (Lit.int .i64 (k : Int)).wf = true := by
  have h1 : IntKind.i64.min = -9223372036854775808 := by decide
  have h2 : IntKind.i64.max = 9223372036854775807 := by decide
  simp only [Lit.wf, h1, h2, Bool.and_eq_true, decide_eq_true_eq]
  omega
theorem eqNil_some (W : World) (a : Addr) (n c : Nat) : (binOp .eql 29 (.slice (some a) n c) (.slice none 0 0)).run Tryd.prog W = .ok (.bool false) W := Lib.run_eql_slice_nil (P := Tryd.prog) W 29 5 (some a) n c 0 0 Tryd.underlying29
theorem eqNil_nil (W : World) : (binOp .eql 29 (.slice none 0 0) (.slice none 0 0)).run Tryd.prog W = .ok (.bool true) W := Lib.run_eql_slice_nil (P := Tryd.prog) W 29 5 none 0 0 0 0 Tryd.underlying29
theorem neNil_some (W : World) (a : Addr) (n c : Nat) : (binOp .neq 29 (.slice (some a) n c) (.slice none 0 0)).run Tryd.prog W = .ok (.bool true) W := by
  simp only [binOp]
  simp [Op.equal, Op.maxDepth, Lib.run_equalIn_slice_nil (P := Tryd.prog) W 9999 29 5 (some a) n c 0 0 Tryd.underlying29]
theorem neNil_nil (W : World) : (binOp .neq 29 (.slice none 0 0) (.slice none 0 0)).run Tryd.prog W = .ok (.bool false) W := by
  simp only [binOp]
  simp [Op.equal, Op.maxDepth, Lib.run_equalIn_slice_nil (P := Tryd.prog) W 9999 29 5 none 0 0 0 0 Tryd.underlying29]
def medV (L : Lay) (S : St) : Value := .slice (some ⟨L.mb, 0, none⟩) S.nb S.nb
def berr (b e : Int) : Obj := .cells #[.int .i64 b, .int .i64 e] 82
abbrev errV (g : Nat) : Value := .iface 80 (.pointer (some ⟨g, 0, none⟩))

theorem Core.medCell {w : World} {L : Lay} {A : Nat → Value} {D : DataW Value} {S : St} (h : Core w L A D S) {k : Nat} (hk : k < S.nb) : ∃ v, w.cell? ⟨L.mb, k, none⟩ = some v ∧ Med w L.U v (S.med k) := by
  obtain ⟨ms, h1, h2, h3⟩ := h.hm
  obtain ⟨v, hv, hm⟩ := h3 k hk
  exact ⟨v, by rw [cell_of_row _ _ _ _ _ _ h1]; exact hv, hm⟩
theorem Core.medFree {w : World} {L : Lay} {A : Nat → Value} {D : DataW Value} {S : St} (h : Core w L A D S) (k : Nat) : w.frozen? ⟨L.mb, k, none⟩ = false := by
  obtain ⟨ms, h1, h2, h3⟩ := h.hm
  exact frozen_of_row _ _ _ _ 29 h1

theorem mlook_some {w : World} {L : Lay} {A : Nat → Value} {D : DataW Value} {S : St} (h : Core w L A D S) {k : Nat} (hk : k < S.nb) {l : List Nat} (hl : S.med k = some l) :
    Calls Tryd.prog 77 #[medV L S, .int .i64 (k : Int)] w fun e w' => ∃ g, e = .returned (.tuple #[sl g l.length, .nilIface]) ∧ w' = w ∧ PieceAt w g l ∧ L.U g := by
  obtain ⟨v, hv, hm⟩ := h.medCell hk
  rw [hl] at hm
  obtain ⟨g, rfl, hp, hu⟩ := hm
  have HP := hide hp
  have hnb := h.nb2
  clear hp h hl
  unfold medV
  unfold sl at hv
  have hq := eqNil_some
  go_enter Tryd.func77, Tryd.ntmps77
  go_wp2
  go_ret2
  exact ⟨g, rfl, rfl, HP.out, hu⟩

theorem mlook_none {w : World} {L : Lay} {A : Nat → Value} {D : DataW Value} {S : St} (h : Core w L A D S) {k : Nat} (hk : k < S.nb) (hl : S.med k = none) :
    Calls Tryd.prog 77 #[medV L S, .int .i64 (k : Int)] w fun e w' => e = .returned (.tuple #[nilS, errV w.heap.size]) ∧ w' = w.alloc (berr k 21) := by
  obtain ⟨v, hv, hm⟩ := h.medCell hk
  rw [hl] at hm
  have hm' : v = nilS := hm
  subst hm'
  have hnb := h.nb2
  clear h hl hm
  unfold medV
  unfold nilS at hv
  have hq := eqNil_nil
  go_enter Tryd.func77, Tryd.ntmps77
  go_wp2_with (go_at_call 24; refine (refused_any _ _ _).mono ?_; rintro e w' ⟨rfl, rfl⟩)
  go_ret2
  exact ⟨rfl, rfl⟩

theorem mlay_any {w : World} {L : Lay} {A : Nat → Value} {D : DataW Value} {S : St} (h : Core w L A D S) {k : Nat} (hk : k < S.nb) (ad : Option Addr) (n c : Nat) :
    Calls Tryd.prog 76 #[medV L S, .int .i64 (k : Int), .slice ad n c] w fun e w' => e = .returned (.tuple #[]) ∧ w' = w.setCell ⟨L.mb, k, none⟩ (.slice ad n c) := by
  obtain ⟨u, hu, _⟩ := h.medCell hk
  have hf := h.medFree k
  have hnb := h.nb2
  clear h
  unfold medV
  go_enter Tryd.func76, Tryd.ntmps76
  go_wp2
  go_end0
  exact ⟨rfl, rfl⟩

theorem mspoil_any {w : World} {L : Lay} {A : Nat → Value} {D : DataW Value} {S : St} (h : Core w L A D S) {k : Nat} (hk : k < S.nb) :
    Calls Tryd.prog 25 #[medV L S, .int .i64 (k : Int)] w fun e w' => e = .returned (.tuple #[]) ∧ w' = w.setCell ⟨L.mb, k, none⟩ nilS := by
  obtain ⟨u, hu, _⟩ := h.medCell hk
  have hf := h.medFree k
  have hnb := h.nb2
  clear h
  unfold medV
  go_enter Tryd.func25, Tryd.ntmps25
  go_wp2
  go_end0
  exact ⟨rfl, rfl⟩

/-- what the map tells at a block -/
theorem look_run {w : World} {L : Lay} {A : Nat → Value} {D : DataW Value} {S : St} (ho : w.ownsMap Tryd.prog 3 Rv L.cb 8192 D) (h : Core w L A D S) {k : Nat} (hk : k < S.nb) :
    (Instr.lookup 56 (.map (some L.cb)) (.int .i64 (k : Int)) false).run Tryd.prog w = .ok (A k) w := by
  have hnb := h.nb2
  obtain ⟨v, ps, hr, hv⟩ := ho.lookup kInt (t := 56) Tryd.underlying56 (zeroBB w) (zd := .held nilS) (zp := []) rfl (key := .int .i64 (k : Int)) (kl := kL k) (keyOf_int_mk Tryd.underlying3 (wf_k (by omega)))
  rw [h.at_ k hk] at hv
  simp only [Rv, Option.some.injEq, Prod.mk.injEq, DataW.held.injEq] at hv
  rw [hr, hv.1]

theorem kL_key' (k : Nat) : WideAt.IsKeyLit (kL k) := by trivial
theorem getD_app {α : Type} (l m : List α) (d : α) {i : Nat} (h : i < l.length) : (l ++ m).getD i d = l.getD i d := by
  simp [List.getD, h, List.getElem?_append_left]
theorem getD_get {α : Type} {l : List α} {i : Nat} (d : α) (h : i < l.length) : l[i]? = some (l.getD i d) := by
  simp [List.getD, h]

theorem Row.at_ {w : World} {U : Nat → Prop} {v : Value} {ls : List (List Nat)} (h : Row w U v ls) {i : Nat} (hi : i < ls.length) :
    ∃ gr cap g, v = .slice (some ⟨gr, 0, none⟩) ls.length cap ∧ ls.length ≤ cap ∧ cap ≤ maxLen ∧ w.cell? ⟨gr, i, none⟩ = some (sl g (ls.getD i []).length) ∧ PieceAt w g (ls.getD i []) ∧ U g := by
  obtain ⟨gs, r1, r2, r3, r4, r5⟩ := h
  rcases r2.2 with ⟨_, h0⟩ | ⟨gr, cap, cur, e, _, _, hcap, hmx, _⟩
  · omega
  refine ⟨gr, cap, gs.getD i 0, e, hcap, hmx, ?_, (r3 i hi).1, (r3 i hi).2⟩
  subst e
  rw [r2.cellAt i (by omega), List.getElem?_map, List.getElem?_range hi]
  rfl

theorem clook_some {w : World} {L : Lay} {A : Nat → Value} {D : DataW Value} {S : St} (ho : w.ownsMap Tryd.prog 3 Rv L.cb 8192 D) (h : Core w L A D S) {k : Nat} (hk : k < S.nb) (hne : S.cache k ≠ []) :
    Calls Tryd.prog 79 #[.map (some L.cb), .int .i64 (k : Int)] w fun e w' => ∃ g l, e = .returned (.tuple #[sl g l.length, .nilIface]) ∧ w' = w ∧ (S.cache k).getLast? = some l ∧ PieceAt w g l ∧ L.U g := by
  have hr := look_run ho h hk
  have hpos : 0 < (S.cache k).length := List.length_pos_iff.2 hne
  obtain ⟨gr, cap, g, e, hcap, hmx, hc, hp, hu⟩ := (h.row k hk).at_ (i := (S.cache k).length - 1) (by omega)
  have HL : Hid ((S.cache k).getLast? = some ((S.cache k).getD ((S.cache k).length - 1) [])) := hide (by
    rw [List.getLast?_eq_getElem?]; exact getD_get [] (by omega))
  rw [e] at hr
  generalize (S.cache k).getD ((S.cache k).length - 1) [] = l at *
  generalize (S.cache k).length = n at *
  have HP := hide hp
  clear hp h ho hne e
  unfold sl at hc
  unfold maxLen at hmx
  go_enter Tryd.func79, Tryd.ntmps79
  go_wp2
  go_ret2
  exact ⟨g, l, rfl, rfl, HL.out, HP.out, hu⟩

theorem clook_none {w : World} {L : Lay} {A : Nat → Value} {D : DataW Value} {S : St} (ho : w.ownsMap Tryd.prog 3 Rv L.cb 8192 D) (h : Core w L A D S) {k : Nat} (hk : k < S.nb) (hne : S.cache k = []) :
    Calls Tryd.prog 79 #[.map (some L.cb), .int .i64 (k : Int)] w fun e w' => e = .returned (.tuple #[nilS, .nilIface]) ∧ w' = w := by
  have hr := look_run ho h hk
  obtain ⟨gs, r1, r2, r3, r4, r5⟩ := h.row k hk
  rw [r5 hne] at hr
  unfold nilS at hr
  clear r2 r3 r4 r5 h ho
  go_enter Tryd.func79, Tryd.ntmps79
  go_wp2
  go_ret2
  exact ⟨rfl, rfl⟩

/-- the disk's own row is written -/
theorem Rep.store {w : World} {L : Lay} {S : St} (hR : Rep w L S) (i : Nat) (v : Value) (o : Bool) (f a b c d : Int) (hf : -1 ≤ f ∧ f ≤ 9223372036854775807) (hrow : (diskRow L S).setIfInBounds i v = diskRow L { S with off := o, fuse := f, rd := a, wr := b, th := c, fl := d }) :
    Rep (w.setCell ⟨L.p, i, none⟩ v) L { S with off := o, fuse := f, rd := a, wr := b, th := c, fl := d } ∧ Grow w (w.setCell ⟨L.p, i, none⟩ v) L.U L.U ∧ (w.setCell ⟨L.p, i, none⟩ v).heap.size = w.heap.size := by
  obtain ⟨A, D, ho, hc⟩ := hR
  have hp := hc.hp
  have hne : L.cb ≠ L.p := fun e => by obtain ⟨es, c, h, _⟩ := ho; rw [e, hp] at h; simp at h
  have KEEP : ∀ b, b ≠ L.p → (w.setCell ⟨L.p, i, none⟩ v).heap[b]? = w.heap[b]? := fun b hb => Go.heap_setCell_other _ _ _ _ hb
  have SIZE : (w.setCell ⟨L.p, i, none⟩ v).heap.size = w.heap.size := by simp [World.setCell]
  exact ⟨⟨A, D, ownsMap_keptAt ho (KEEP _ hne), hc.setDisk o f a b c d hf (by rw [setDisk_row hp, hrow]) KEEP (by rw [SIZE]; exact Nat.le_refl _)⟩,
    ⟨rfl, rfl, rfl, by rw [SIZE]; exact Nat.le_refl _, fun b hb hu => KEEP b fun e => hu (e ▸ hc.uP), fun _ _ h => h, fun _ h => h⟩, SIZE⟩

/-- a block of the medium is written -/
theorem Rep.setMed {w : World} {L : Lay} {S : St} (hR : Rep w L S) {k : Nat} (hk : k < S.nb) (v : Value) (o : Option (List Nat)) (hv : Med w L.U v o) (hl : ∀ l, o = some l → l.length = S.sz) :
    Rep (w.setCell ⟨L.mb, k, none⟩ v) L { S with med := updF S.med k o } ∧ Grow w (w.setCell ⟨L.mb, k, none⟩ v) L.U L.U ∧ (w.setCell ⟨L.mb, k, none⟩ v).heap.size = w.heap.size := by
  obtain ⟨A, D, ho, hc⟩ := hR
  obtain ⟨ms, h1, _⟩ := hc.hm
  have hne : L.cb ≠ L.mb := fun e => by obtain ⟨es, c, h, _⟩ := ho; rw [e, h1] at h; simp at h
  have KEEP : ∀ b, b ≠ L.mb → (w.setCell ⟨L.mb, k, none⟩ v).heap[b]? = w.heap[b]? := fun b hb => Go.heap_setCell_other _ _ _ _ hb
  have SIZE : (w.setCell ⟨L.mb, k, none⟩ v).heap.size = w.heap.size := by simp [World.setCell]
  exact ⟨⟨A, D, ownsMap_keptAt ho (KEEP _ hne), hc.setMed hk v o hv hl (fun ms hms => Go.heap_setCell_same w L.mb k _ 29 _ hms) KEEP (by rw [SIZE]; exact Nat.le_refl _)⟩,
    ⟨rfl, rfl, rfl, by rw [SIZE]; exact Nat.le_refl _, fun b hb hu => KEEP b fun e => hu (e ▸ hc.uM), fun _ _ h => h, fun _ h => h⟩, SIZE⟩

theorem Rep.wider {w : World} {L : Lay} {S : St} (h : Rep w L S) {U' : Nat → Prop} (hU : ∀ b, L.U b → U' b) (hlt : ∀ b, U' b → b < w.heap.size) : Rep w { L with U := U' } S := by
  obtain ⟨A, D, ho, hc⟩ := h
  exact ⟨A, D, ho, hc.wider hU hlt⟩

/-- one more cached write -/
theorem Core.putRow {w w2 : World} {L : Lay} {A : Nat → Value} {D : DataW Value} {S : St} (h : Core w L A D S) {k g : Nat} (hk : k < S.nb) {l : List Nat} (hcb : ∃ es c, w.heap[L.cb]? = some (.map es c)) (hU : L.U g) (hg : PieceAt w g l) (hl : l.length = S.sz)
    (hD : IsMap D) (v' : Value) (hs : w.heap.size ≤ w2.heap.size) (hkeep : ∀ b, b < w.heap.size → b ≠ L.cb → some b ≠ (A k).ownBlock → w2.heap[b]? = w.heap[b]?)
    (hrow : ∀ xs, w.ownsRow 0 29 1 (A k) (S.cache k).length xs → w2.ownsRow 0 29 1 v' ((S.cache k).length + 1) (xs ++ [sl g l.length])) (hat : v'.ownBlock = (A k).ownBlock ∨ ∃ g', v'.ownBlock = some g' ∧ w.heap.size ≤ g') :
    Core w2 { L with U := fun b => L.U b ∨ (w.heap.size ≤ b ∧ b < w2.heap.size) } (updF A k v') (D.put (kL k) (.held v')) { S with cache := updF S.cache k (S.cache k ++ [l]) } := by
  obtain ⟨es, c, hcb⟩ := hcb
  have hkc : ∀ (b : Nat) (cs : Array Value) (t : TypeId), w.heap[b]? = some (Obj.cells cs t (0, 0)) → some b ≠ (A k).ownBlock → w2.heap[b]? = w.heap[b]? := fun b cs t hb hne =>
    hkeep b (Array.getElem?_eq_some_iff.1 hb).1 (fun e => by rw [e, hcb] at hb; simp at hb) hne
  have hA : ∀ b, (A k).ownBlock = some b → ∃ cs, w.heap[b]? = some (.cells cs 29 (0, 0)) := fun b hb => (h.row k hk).cellsAt hb
  have piece : ∀ b l, PieceAt w b l → PieceAt w2 b l := fun b l hp' => hp'.kept (hkc b _ _ hp'.1 fun e => by
    obtain ⟨cs, hcs⟩ := hA b e.symm
    have := hp'.1
    rw [hcs] at this
    simp at this)
  obtain ⟨ms, h1, h2, h3⟩ := h.hm
  refine ⟨h.nb1, h.nb2, h.sz, h.fz, (hkc _ _ _ h.hp fun e => ?_).trans h.hp, ⟨ms, (hkc _ _ _ h1 fun e => h.offM k hk e.symm).trans h1, h2, fun j hj => ?_⟩, h.mlen, fun j m hj hjl => ?_, fun kl hkl => ?_, fun j hj => ?_, fun j hj => ?_, fun j hj => ?_, fun a b ha hb hab x hx => ?_, fun j hj => ?_, .inl h.uP, .inl h.uM, .inl h.uC, fun b hb => ?_⟩
  · obtain ⟨cs, hcs⟩ := hA _ e.symm
    have := h.hp
    rw [hcs] at this
    simp at this
  · obtain ⟨v, hv, hmed⟩ := h3 j hj
    refine ⟨v, hv, ?_⟩
    show Med w2 _ v (S.med j)
    cases hq : S.med j with
    | none => rw [hq] at hmed; exact hmed
    | some m =>
      rw [hq] at hmed
      obtain ⟨b, e, hp', hu⟩ := hmed
      exact ⟨b, e, piece b m hp', .inl hu⟩
  · by_cases e : j = k
    · subst e
      rw [show ({ S with cache := updF S.cache j (S.cache j ++ [l]) } : St).cache j = S.cache j ++ [l] from updF_same _ _ _] at hjl
      rcases List.mem_append.1 hjl with hm | hm
      · exact h.clen j m hj hm
      · simp only [List.mem_singleton] at hm; subst hm; exact hl
    · exact h.clen j m hj (by simpa [updF_other _ _ e] using hjl)
  · by_cases e : kl = kL k
    · exact ⟨k, hk, e⟩
    · rw [has_put_other e] at hkl; exact h.keys kl hkl
  · show has (D.put (kL k) (.held v')) (kL j) = true ↔ updF S.cache k (S.cache k ++ [l]) j ≠ []
    by_cases e : j = k
    · subst e; rw [has_put_same hD (kL_key' j), updF_same]; simp
    · rw [has_put_other (fun e2 => e (kL_inj e2)), updF_other _ _ e]; exact h.hasK j hj
  · by_cases e : j = k
    · subst e; rw [atKey_put_same hD (kL_key' j), updF_same]
    · rw [atKey_put_other (fun e2 => e (kL_inj e2)), updF_other _ _ e]; exact h.at_ j hj
  · show Row w2 _ (updF A k v' j) (updF S.cache k (S.cache k ++ [l]) j)
    obtain ⟨gs, r1, r2, r3, r4, r5⟩ := h.row j hj
    by_cases e : j = k
    · subst e
      rw [updF_same, updF_same]
      refine ⟨gs ++ [g], by simp [r1], ?_, fun i hi => ?_, fun x hx => ?_, fun e => by simp at e⟩
      · have := hrow _ r2
        have e2 : (List.range (S.cache j ++ [l]).length).map (fun i => sl ((gs ++ [g]).getD i 0) ((S.cache j ++ [l]).getD i []).length) = (List.range (S.cache j).length).map (fun i => sl (gs.getD i 0) ((S.cache j).getD i []).length) ++ [sl g l.length] := by
          rw [List.length_append, List.length_singleton, List.range_succ, List.map_append]
          congr 1
          · apply List.map_congr_left
            intro i hi
            have hi' := List.mem_range.1 hi
            rw [getD_app _ _ _ hi', getD_app _ _ _ (by omega)]
          · simp [List.getD, r1]
        rw [e2, List.length_append, List.length_singleton]
        exact this
      · by_cases hi' : i < (S.cache j).length
        · rw [getD_app _ _ _ hi', getD_app _ _ _ (by omega)]
          exact ⟨piece _ _ (r3 i hi').1, .inl (r3 i hi').2⟩
        · have : i = (S.cache j).length := by simp at hi; omega
          subst this
          have e3 : (gs ++ [g]).getD (S.cache j).length 0 = g := by simp [List.getD, ← r1]
          have e4 : (S.cache j ++ [l]).getD (S.cache j).length [] = l := by simp [List.getD]
          rw [e3, e4]
          exact ⟨piece _ _ hg, .inl hU⟩
      · rcases hat with e | ⟨g', e, hg'⟩
        · exact .inl (r4 x (e ▸ hx))
        · rw [e] at hx
          simp only [Option.some.injEq] at hx
          subst hx
          exact .inr ⟨hg', by
            rcases (hrow _ r2).2 with ⟨e0, _⟩ | ⟨g2, cap, cur, e0, _, hh, _⟩
            · rw [e0] at e; simp [Value.ownBlock] at e
            · rw [e0] at e
              simp only [Value.ownBlock, Option.some.injEq] at e
              rw [← e]
              exact (Array.getElem?_eq_some_iff.1 hh).1⟩
    · rw [updF_other _ _ e, updF_other _ _ e]
      exact ⟨gs, r1, ownsRow_keptIf r2 fun x hx => by
        obtain ⟨cs, hc⟩ := (h.row j hj).cellsAt hx
        exact hkc _ _ _ hc fun e2 => h.apart k j hk hj (Ne.symm e) x e2.symm hx, fun i hi => ⟨piece _ _ (r3 i hi).1, .inl (r3 i hi).2⟩, fun x hx => .inl (r4 x hx), r5⟩
  · have old : ∀ j, j < S.nb → ∀ x, (A j).ownBlock = some x → x < w.heap.size := fun j hj x hx => by
      obtain ⟨cs, hc⟩ := (h.row j hj).cellsAt hx
      exact (Array.getElem?_eq_some_iff.1 hc).1
    by_cases e : a = k
    · subst e
      rw [updF_same] at hx
      rw [updF_other _ _ (Ne.symm hab)]
      intro hy
      rcases hat with e2 | ⟨g', e2, hg'⟩
      · exact h.apart a b ha hb hab x (e2 ▸ hx) hy
      · rw [e2] at hx
        simp only [Option.some.injEq] at hx
        have := old b hb x hy
        omega
    · rw [updF_other _ _ e] at hx
      by_cases e3 : b = k
      · subst e3
        rw [updF_same]
        intro hy
        rcases hat with e2 | ⟨g', e2, hg'⟩
        · exact h.apart a b ha hb hab x hx (e2 ▸ hy)
        · rw [e2] at hy
          simp only [Option.some.injEq] at hy
          have := old a ha x hx
          omega
      · rw [updF_other _ _ e3]; exact h.apart a b ha hb hab x hx
  · by_cases e : j = k
    · subst e
      rw [updF_same]
      intro hy
      rcases hat with e2 | ⟨g', e2, hg'⟩
      · exact h.offM j hj (e2 ▸ hy)
      · rw [e2] at hy
        simp only [Option.some.injEq] at hy
        have := (Array.getElem?_eq_some_iff.1 h1).1
        omega
    · rw [updF_other _ _ e]; exact h.offM j hj
  · rcases hb with hb | hb
    · exact Nat.lt_of_lt_of_le (h.uLt b hb) hs
    · exact hb.2
end Go.Proofs.YtepgiomgkgfioaaDoor.K
