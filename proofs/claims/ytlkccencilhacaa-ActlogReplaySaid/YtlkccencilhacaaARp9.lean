import Derived.Test.YtlkccencilhacaaARp7
import Derived.Test.YtlkccencilhacaaARp8
import Derived.Test.YtlkccencilhacaaAUpon
namespace Go.Proofs.Ytlkccencilhacaa
open Go.RowKit Go.Sort
open Num
set_option linter.unusedVariables false
set_option linter.unusedSimpArgs false
set_option maxRecDepth 20000

def flR (rs : List Rc) : List Value := rs.flatMap fun r => (recI r).toList
theorem recI_len (r : Rc) : (recI r).toList.length = 11 := by simp [recI]
theorem flR_len : ∀ rs : List Rc, (flR rs).length = rs.length * 11
  | [] => rfl
  | r :: rs => by
    have := flR_len rs
    unfold flR at this ⊢
    rw [List.flatMap_cons, List.length_append, this, recI_len, List.length_cons]
    omega
theorem flR_get : ∀ (rs : List Rc) (i j : Nat) (r : Rc), rs[i]? = some r → j < 11 → (flR rs)[i * 11 + j]? = (recI r).toList[j]?
  | [], i, j, r, h, _ => by simp at h
  | q :: rs, 0, j, r, h, hj => by
    simp only [List.getElem?_cons_zero, Option.some.injEq] at h
    subst h
    unfold flR
    rw [List.flatMap_cons, Nat.zero_mul, Nat.zero_add, List.getElem?_append_left (by rw [recI_len]; exact hj)]
  | q :: rs, i + 1, j, r, h, hj => by
    have ih := flR_get rs i j r (by simpa using h) hj
    unfold flR at ih ⊢
    rw [List.flatMap_cons, List.getElem?_append_right (by rw [recI_len]; omega), recI_len, show (i + 1) * 11 + j - 11 = i * 11 + j by omega]
    exact ih
/-- records in a row -/
def RRow (w : World) (v : Value) (rs : List Rc) : Prop := w.ownsRow 0 90 11 v rs.length (flR rs)
theorem RRow.range {w : World} {g cap : Nat} {rs : List Rc} (h : RRow w (.slice (some ⟨g, 0, none⟩) rs.length cap) rs) {i : Nat} {r : Rc} (hr : rs[i]? = some r) : w.rangeAt g (i * 11) (recI r).toList := by
  intro j v hj
  have hjl : j < 11 := by rw [← recI_len r]; exact (List.getElem?_eq_some_iff.1 hj).1
  have hi : i < rs.length := (List.getElem?_eq_some_iff.1 hr).1
  rw [h.cellAt (i * 11 + j) (by omega), flR_get rs i j r hr hjl]
  exact hj
/-- what is known of a record that was read -/
structure GdR (r : Rc) (slots : Nat) : Prop where
  n : r.num < 4294967296
  a : r.age < 65536
  s : r.slots = slots
  s0 : 0 ≤ r.st
  s1 : r.st < 65536
  c : r.C.length = 4
theorem recI_lit (r : Rc) (h : r.C.length = 4) : recI r = recV r.num r.age r.slots r.c0 r.c1 r.c2 r.st (r.C.getD 0 0) (r.C.getD 1 0) (r.C.getD 2 0) (r.C.getD 3 0) := rfl
/-- what run answers -/
def RunP (w : World) (P : List (Option Rc)) (r : Rc) (e : Ending) (w' : World) : Prop := ((∃ rs v, Run P r rs ∧ e = .returned (.tuple #[v, .bool true]) ∧ RRow w' v rs ∧ ∀ b, v.ownBlock = some b → w.heap.size ≤ b) ∨ (RunBad P r ∧ e = .returned (.tuple #[.slice none 0 0, .bool false]))) ∧ Below w.heap.size w w'
/-- while run gathers -/
structure RuW (w wr : World) (P : List (Option Rc)) (r : Rc) (rs : List Rc) (v : Value) : Prop where
  be : Below w.heap.size w wr
  box : wr.heap[w.heap.size]? = some (.cells (recI r) 90 (0, 0))
  row : RRow wr v rs
  own : ∀ b, v.ownBlock = some b → w.heap.size < b
  pl : ∀ k q, rs[k]? = some q → (k = 0 → q = r) ∧ (0 < k → pAt P (wd r.num k) = some q)
  fo : ∀ k q q', rs[k]? = some q → rs[k + 1]? = some q' → Fol q q'
theorem RuW.below {w x y : World} {P : List (Option Rc)} {r : Rc} {rs : List Rc} {v : Value} (h : RuW w x P r rs v) (hb : Below x.heap.size x y) : RuW w y P r rs v := by
  refine ⟨h.be.trans (hb.mono h.be.size), (hb.block _ (Array.getElem?_eq_some_iff.1 h.box).1).trans h.box, rowKept h.row fun g hg => ?_, h.own, h.pl, h.fo⟩
  obtain ⟨cs, hc⟩ := rowCells h.row hg
  exact hb.block _ (Array.getElem?_eq_some_iff.1 hc).1
theorem RuW.more {w x w6 : World} {P : List (Option Rc)} {r q : Rc} {rs : List Rc} {v v6 : Value} {o : Obj} (h : RuW w x P r rs v) (hl : 1 ≤ rs.length) (ho : w6.ownsRow 0 90 11 v6 (rs.length + 1) (flR rs ++ (recI q).toList)) (hu : UponC (x.alloc o) w6 v v6) (hq : pAt P (wd r.num rs.length) = some q) (hf : ∀ q1, rs[rs.length - 1]? = some q1 → Fol q1 q) : RuW w w6 P r (rs ++ [q]) v6 := by
  have hb0 := (Below.refl x.heap.size x).alloc (Nat.le_refl _) o
  have hb : Below (w.heap.size + 1) x w6 := by
    obtain ⟨e1, e2, e3⟩ := hu.same
    refine ⟨e1, e2, e3, Nat.le_trans (by simp) hu.size, fun b hb => ?_⟩
    have hbx := (Array.getElem?_eq_some_iff.1 h.box).1
    rw [hu.block b (by simp; omega) (fun e => by have := h.own b e; omega)]
    exact hb0.block b (by omega)
  refine ⟨h.be.trans (hb.mono (by omega)), (hb.block _ (by omega)).trans h.box, by unfold RRow; rw [List.length_append]; simpa [flR] using ho, fun b e => ?_, fun k q' hk => ?_, fun k a b hka hkb => ?_⟩
  · rcases hu.loc b e with h1 | h1
    · exact h.own b h1
    · have hbx := (Array.getElem?_eq_some_iff.1 h.box).1
      rw [h1]; simp; omega
  · by_cases e : k < rs.length
    · rw [List.getElem?_append_left e] at hk
      exact h.pl k q' hk
    · rw [List.getElem?_append_right (by omega)] at hk
      have hk0 : k = rs.length := by
        rcases Nat.lt_or_ge rs.length k with h9 | h9
        · rw [List.getElem?_eq_none (by simp; omega)] at hk; cases hk
        · omega
      subst hk0
      simp at hk
      subst hk
      exact ⟨fun h => by omega, fun _ => hq⟩
  · by_cases e : k + 1 < rs.length
    · rw [List.getElem?_append_left (by omega)] at hka
      rw [List.getElem?_append_left e] at hkb
      exact h.fo k a b hka hkb
    · have hk0 : k + 1 = rs.length := by
        rcases Nat.lt_or_ge rs.length (k + 1) with h9 | h9
        · rw [List.getElem?_eq_none (by simp; omega)] at hkb; cases hkb
        · omega
      rw [List.getElem?_append_left (by omega)] at hka
      rw [List.getElem?_append_right (by omega), show k + 1 - rs.length = 0 by omega] at hkb
      simp at hkb
      subst hkb
      exact hf a (by rw [← hk0]; simpa using hka)
theorem r_pickC (ev : Operand → Value) (w : World) (o : Oper) (t s : Nat) (ho : o.op = .pick (.tmp t) (.const (.bool true)) (.tmp s)) (h : ev (.tmp t) = .bool true) (h3 : ev (.const (.bool true)) = .bool true) : (execOp ev o).run Try.prog w = .ok (.value (.bool true)) w := by
  cases o
  cases ho
  simp [execOp, h, h3, go_sem]
theorem r_fldP (ev : Operand → Value) (w : World) (o : Oper) (t b k : Nat) (hk : k = 0 ∨ k = 1) (ho : o.op = .fieldAddr 135 (.tmp t) k) (h : ev (.tmp t) = .pointer (some ⟨b, 0, none⟩)) : (execOp ev o).run Try.prog w = .ok (.value (.pointer (some ⟨b, k * 11, none⟩))) w := by
  cases o
  cases ho
  rcases hk with rfl | rfl <;> simp [execOp, h, go_sem]
theorem r_ldB (ev : Operand → Value) (w : World) (o : Oper) (t b k : Nat) (v : Bool) (ho : o.op = .load 4 (.tmp t)) (h : ev (.tmp t) = .pointer (some ⟨b, k, none⟩)) (hc : w.cell? ⟨b, k, none⟩ = some (.bool v)) : (execOp ev o).run Try.prog w = .ok (.value (.bool v)) w := by
  cases o
  cases ho
  simp [execOp, h, hc, go_sem]
theorem r_not (ev : Operand → Value) (w : World) (o : Oper) (t : Nat) (v : Bool) (ho : o.op = .unOp .not 4 (.tmp t)) (h : ev (.tmp t) = .bool v) : (execOp ev o).run Try.prog w = .ok (.value (.bool (!v))) w := by
  cases o
  cases ho
  simp [execOp, h, go_sem]
theorem r_sub1 (ev : Operand → Value) (w : World) (o : Oper) (t k : Nat) (ho : o.op = .binOp .sub 3 (.tmp t) (.const (.int .i64 1)) 3) (h : ev (.tmp t) = .int .i64 (k : Int)) (hc : ev (.const (.int .i64 1)) = .int .i64 1) (hk : 1 ≤ k) (hk2 : k ≤ 100) : (execOp ev o).run Try.prog w = .ok (.value (.int .i64 ((k - 1 : Nat) : Int))) w := by
  cases o
  cases ho
  have e : (k : Int) - 1 = ((k - 1 : Nat) : Int) := by omega
  have hw : IntKind.i64.wrap ((k - 1 : Nat) : Int) = ((k - 1 : Nat) : Int) := by simp [IntKind.wrap, IntKind.bits, IntKind.signed]; omega
  simp [execOp, h, hc, go_sem, e, hw]
theorem r_idxR (ev : Operand → Value) (w : World) (o : Oper) (t s b n c i : Nat) (ho : o.op = .indexAddr 93 (.tmp t) (.tmp s)) (h : ev (.tmp t) = .slice (some ⟨b, 0, none⟩) n c) (h2 : ev (.tmp s) = .int .i64 (i : Int)) (hi : i < n) : (execOp ev o).run Try.prog w = .ok (.value (.pointer (some ⟨b, i * 11, none⟩))) w := by
  cases o
  cases ho
  have hi2 : (i : Int) < (n : Int) := by omega
  simp [execOp, h, h2, go_sem, hi2, hi]
theorem r_callF (ev : Operand → Value) (w : World) (o : Oper) (x y : Value) (ho : o.op = .call { callee := .value (.func 70), args := #[.tmp 38, .tmp 40], argTypes := #[90, 90] }) (h1 : ev (.tmp 38) = x) (h2 : ev (.tmp 40) = y) (h3 : ev (.func 70) = .func (.func 70) #[] #[]) : (execOp ev o).run Try.prog w = .ok (.enter 70 #[x, y]) w := by
  cases o
  cases ho
  simp [execOp, h1, h2, h3, go_sem]
theorem r_pickT (ev : Operand → Value) (w : World) (o : Oper) (t s : Nat) (x : Bool) (ho : o.op = .pick (.tmp t) (.const (.bool true)) (.tmp s)) (h : ev (.tmp t) = .bool false) (h2 : ev (.tmp s) = .bool x) (h3 : ev (.const (.bool true)) = .bool true) : (execOp ev o).run Try.prog w = .ok (.value (.bool x)) w := by
  cases o
  cases ho
  simp [execOp, h, h2, h3, go_sem]
theorem folR_any (w : World) (q1 q : Rc) (slots0 : Nat) (h1 : 1 ≤ slots0) (h2 : slots0 ≤ 16) (g1 : GdR q1 slots0) (g2 : GdR q slots0) : Calls Try.prog 70 #[.agg (recI q1), .agg (recI q)] w (BoolP w (Fol q1 q)) := by
  have hst : ((q.st.toNat : Nat) : Int) = q.st := by have := g2.s0; omega
  have h := fol_any w q1.num q1.age q1.slots q1.c0 q1.c1 q1.c2 q1.st (q1.C.getD 0 0) (q1.C.getD 1 0) (q1.C.getD 2 0) (q1.C.getD 3 0) q.num q.age q.slots q.c0 q.c1 q.c2 q.st.toNat (q.C.getD 0 0) (q.C.getD 1 0) (q.C.getD 2 0) (q.C.getD 3 0) (by rw [g1.s]; exact h1) (by rw [g1.s]; exact h2) g2.a (by have := g2.s1; have := g2.s0; omega)
  rw [hst] at h
  refine h.mono ?_
  rintro e w' ⟨b, rfl, hb, hw⟩
  refine ⟨b, rfl, hb.trans ?_, hw⟩
  unfold Fol
  have e2 : (((q.st.toNat + 4) % q1.slots : Nat) : Int) = (q.st + 4) % (q1.slots : Int) := by rw [Int.natCast_emod, Int.natCast_add, hst]; rfl
  rw [e2]
theorem info_rec : (Try.prog.info? 90).map (fun i => (i.zero, i.size, i.bytes)) = some (some (.agg zrec), 11, 88) := by kernel_rfl
set_option maxHeartbeats 4000000 in
theorem hrun_any {w : World} {g slots0 : Nat} {P : List (Option Rc)} (h : HPl w g P) (h1 : 1 ≤ P.length) (h2 : P.length ≤ 4) (hs1 : 1 ≤ slots0) (hs2 : slots0 ≤ 16) (r : Rc) (hr : GdR r slots0) (hP : ∀ (i : Nat) (q : Rc), P[i]? = some (some q) → GdR q slots0) :
    Calls Try.prog 40 #[.slice (some ⟨g, 0, none⟩) P.length P.length, .agg (recI r)] w (RunP w P r) := by
  have HAT : Hid (∀ x, Below w.heap.size w x → ∀ m, m < 4294967296 → _) := hide fun x (hx : Below w.heap.size w x) m (hm : m < 4294967296) => hat_any (h.below hx (Array.getElem?_eq_some_iff.1 h).1) h1 h2 m hm
  have HPG : Hid (∀ m q, pAt P m = some q → GdR q slots0) := hide fun m q hq => by
    unfold pAt at hq
    rw [List.getD_eq_getElem?_getD, List.getElem?_eq_getElem (Nat.mod_lt _ (by omega))] at hq
    exact hP _ q (by rw [List.getElem?_eq_getElem (Nat.mod_lt _ (by omega))]; simpa using hq)
  have HR := hide hr
  have HW0 : Hid (RuW w ((w.alloc (.cells (recI r) 90)).alloc (.cells (recI r) 90)) P r [r] (.slice (some ⟨w.heap.size + 1, 0, none⟩) 1 1)) := hide (by
    have hb := ((Below.refl w.heap.size w).alloc (Nat.le_refl _) (.cells (recI r) 90)).alloc (by simp) (.cells (recI r) 90)
    have hnew := Go.heap_alloc_new (w.alloc (.cells (recI r) 90)) (.cells (recI r) 90)
    rw [World.size_alloc] at hnew
    refine ⟨hb, by rw [Below.heap_alloc _ _ _ (by simp)]; exact Go.heap_alloc_new _ _, ⟨by simp [flR, recI], .inr ⟨w.heap.size + 1, 1, recI r, rfl, Nat.zero_le _, hnew, Nat.le_refl _, by unfold maxLen; omega, by simp [recI], by simp [flR, recI]⟩⟩, fun b e => by simp [Value.ownBlock] at e; omega, fun k q hk => ?_, fun k q q' _ hk => by simp at hk⟩
    cases k with
    | zero => simp at hk; exact ⟨fun _ => hk.symm, fun h => absurd h (by omega)⟩
    | succ k => simp at hk)
  have HFIN : Hid (∀ rs : List Rc, (∀ k q, rs[k]? = some q → (k = 0 → q = r) ∧ (0 < k → pAt P (wd r.num k) = some q)) → (∀ k q q', rs[k]? = some q → rs[k + 1]? = some q' → Fol q q') → rs.length = min P.length (r.age + 1) → Run P r rs) := hide fun rs h1 h2 h3 => ⟨h3, h1, h2⟩
  clear h hr hP
  generalize hn : P.length = n at *
  have HN := hide hn
  clear hn
  obtain ⟨rn, ra, rsl, d0, d1, d2, rst, y0, y1, y2, y3, hRI, hrn, hra⟩ : ∃ rn ra rsl : Nat, ∃ d0 d1 d2 rst y0 y1 y2 y3 : Int, recI r = recV rn ra rsl d0 d1 d2 rst y0 y1 y2 y3 ∧ r.num = rn ∧ r.age = ra := ⟨_, _, _, _, _, _, _, _, _, _, _, rfl, rfl, rfl⟩
  rw [hRI] at HW0
  rw [hRI]
  have HRI := hide hRI
  have HRN := hide hrn
  have HRA := hide hra
  clear hRI hrn hra
  go_enter Try.func40, Try.ntmps40
  go_wp2_with fail
  have hlo : (0 : Nat) < 1 := by omega
  have HRBX : Hid (∀ wr rs v, RuW w wr P r rs v → wr.heap[w.heap.size]? = some (.cells (recV rn ra rsl d0 d1 d2 rst y0 y1 y2 y3) 90 (0, 0))) := hide fun wr rs v h => by rw [← HRI.out]; exact h.box
  go_loopw [6, 7] (fun vv x wr => ∃ rs : List Rc, rs.length ≤ n ∧ rs.length ≤ ra + 1 ∧ 1 ≤ rs.length ∧ x = .int .i64 (rs.length : Int) ∧ RuW w wr P r rs vv) (fun _ x _ => n - (intOf x).toNat)
  case atStart => exact ⟨[r], by simpa using h1, by simp, by simp, rfl, HW0.out⟩
  case round =>
    clear HW0
    obtain ⟨rs, hk1, hk2, hk3, rfl, hru⟩ := hrel
    obtain ⟨ga, cap2, rfl, hc1, hc2⟩ := rowForm hru.row
    obtain ⟨g2, rfl⟩ : ∃ g2, ga = some ⟨g2, 0, none⟩ := by
      rcases hru.row.2 with ⟨e, e2⟩ | ⟨g', cap', cur, e, _⟩
      · omega
      · simp only [Value.slice.injEq] at e
        exact ⟨g', e.1⟩
    have HRU := hide hru
    have k1 : wr.cell? ⟨w.heap.size, 1, none⟩ = some (.int .i64 (ra : Int)) := cell_of_row _ _ _ _ _ _ (HRBX.out _ _ _ hru)
    have k0 : wr.cell? ⟨w.heap.size, 0, none⟩ = some (.int .u32 (rn : Int)) := cell_of_row _ _ _ _ _ _ (HRBX.out _ _ _ hru)
    clear hru
    generalize hk : rs.length = k at *
    have HK := hide hk
    clear hk
    by_cases hlt : k < n ∧ k ≤ ra
    · obtain ⟨hkn, hka⟩ := hlt
      have hil : (k : Int) < (n : Int) := by omega
      have hil2 : (k : Int) ≤ (ra : Int) := by omega
      have hrnl : rn < 4294967296 := by rw [← HRN.out]; exact HR.out.n
      have HCA := hide (HAT.out wr HRU.out.be (wd rn k) (by unfold wd; omega))
      have hsb : IntKind.u32.wrap ((rn : Int) - (k : Int)) = ((wd rn k : Nat) : Int) := by unfold wd; simp [IntKind.wrap, IntKind.bits, IntKind.signed]; omega
      have hsb2 : ((rn : Int) - (k : Int)) % 4294967296 = ((wd rn k : Nat) : Int) := by unfold wd; omega
      have hci : IntKind.u32.wrap (k : Int) = (k : Int) := by simp [IntKind.wrap, IntKind.bits, IntKind.signed]; omega
      have hci2 : (k : Int) % 4294967296 = (k : Int) := by omega
      obtain ⟨p, hp⟩ : ∃ p, pAt P (wd rn k) = p := ⟨_, rfl⟩
      have hp0 : pAt P (wd r.num k) = p := by rw [HRN.out]; exact hp
      have HPE := hide hp0
      obtain ⟨num, age, slots, c0, c1, c2, st, z0, z1, z2, z3, f, e1, e2, e3, e4⟩ := plV_lit p
      rw [hp, e1] at HCA
      have HE3 := hide e3
      have HE4 := hide e4
      clear hp hp0 e1 e2 e3 e4
      have HZ : Hid (∀ wy : World, (wy.alloc (.cells zplc 135)).heap[wy.heap.size]? = some (.cells zplc 135 (0, 0))) := hide fun wy => Go.heap_alloc_new _ _
      clear hlo HAT
      generalize wd rn k = nx at *
      go_wp2_with (first
        | (go_at_call 69; refine HCA.out.mono ?_; rintro e wy ⟨rfl, hby⟩; have HBY := hide (HRU.out.below hby); have HBZ := hide (HBY.out.below ((Below.refl _ _).alloc (Nat.le_refl _) (.cells #[.int .u32 (num : Int), .int .i64 (age : Int), .int .i64 (slots : Int), .int .i64 c0, .int .i64 c1, .int .i64 c2, .int .i64 st, .int .i64 z0, .int .i64 z1, .int .i64 z2, .int .i64 z3, .bool f] 135))); have HNW := hide (Go.heap_alloc_new wy (.cells #[.int .u32 (num : Int), .int .i64 (age : Int), .int .i64 (slots : Int), .int .i64 c0, .int .i64 c1, .int .i64 c2, .int .i64 st, .int .i64 z0, .int .i64 z1, .int .i64 z2, .int .i64 z3, .bool f] 135)); clear hby HCA)
        | (refine wpList_store_row rfl 135 (.tmp 8) (.tmp 29) rfl wy.heap.size _ rfl rfl 135 zplc (HZ.out _) placeSize rfl (by first | kernel_rfl | simp [Value.oneCell']) ?_; rw [World.setRow_alloc_new]))
      generalize hbx : wy.heap.size = bx at *
      clear hbx
      generalize wy.alloc (.cells #[.int .u32 (num : Int), .int .i64 (age : Int), .int .i64 (slots : Int), .int .i64 c0, .int .i64 c1, .int .i64 c2, .int .i64 st, .int .i64 z0, .int .i64 z1, .int .i64 z2, .int .i64 z3, .bool f] 135) = w3 at *
      clear HBY HRU HZ k0 k1
      cases f with
      | false =>
        have c11 : w3.cell? ⟨bx, 11, none⟩ = some (.bool false) := cell_of_row _ _ _ _ _ _ HNW.out
        have HBD : Hid (RunBad P r) := hide ⟨k, hk3, by rw [HN.out]; exact hkn, by rw [HRA.out]; exact hka, .inl (by rw [HPE.out]; exact isSome_no HE3.out)⟩
        have HBE := hide HBZ.out.be
        have HROW := hide HNW.out
        have HSZ := hide (Array.getElem?_eq_some_iff.1 HNW.out).1
        clear HNW HBZ HPE c11
        refine wp_region_specU (by kernel_rfl) 14 (fun i => decide (4 ≤ i ∧ i ≤ 12)) (by decide) (by kernel_rfl) (fun x y => Below x.heap.size x y) ⟨rfl, rfl, rfl, Nat.le_refl _, fun _ _ => rfl⟩ (fun x y z h k => h.trans (k.mono h.size)) (fun x => Below.refl _ _)
          (fun i v x => (([.ex (.pointer (some ⟨bx, 11, none⟩)), .ex (.bool false), .ex (.bool true), .ex (.bool true), .of (fun _ _ => True) (fun _ _ _ _ _ => trivial), .of (fun _ _ => True) (fun _ _ _ _ _ => trivial), .of (fun _ _ => True) (fun _ _ _ _ _ => trivial), .of (fun _ _ => True) (fun _ _ _ _ _ => trivial), .of (fun _ _ => True) (fun _ _ _ _ _ => trivial), .of (fun _ _ => True) (fun _ _ _ _ _ => trivial), .of (fun _ _ => True) (fun _ _ _ _ _ => trivial), .of (fun _ _ => True) (fun _ _ _ _ _ => trivial), .of (fun _ _ => True) (fun _ _ _ _ _ => trivial), .ex (.bool true)] : List Dv).getD i (.of (fun _ _ => True) (fun _ _ _ _ _ => trivial))).holds v x) (fun i v x y h hb => Dv.stays h hb) ?stepF ?gdF ?tailF
        case stepF =>
          intro i o a w4 hi hu ho hL hG hd
          have hd' : ∀ j, (depsOf _ i).contains j = true → _ := fun j hj => hd j (by simpa using hj)
          have h8 : a.eval (.tmp 8) = .pointer (some ⟨bx, 0, none⟩) := hL.ev 8 (by kernel_rfl) rfl
          have c11 : w4.cell? ⟨bx, 11, none⟩ = some (.bool false) := cell_of_row _ _ _ _ _ _ ((hG.block _ HSZ.out).trans HROW.out)
          clear hd hL
          have hu2 : ¬ (4 ≤ i ∧ i ≤ 12) := by simpa using hu
          rcases (show i = 0 ∨ i = 1 ∨ i = 2 ∨ i = 3 ∨ i = 13 by omega) with rfl | rfl | rfl | rfl | rfl
          · cases ho; exact opv (r_fldP _ w4 _ _ _ _ (.inr rfl) rfl h8) ⟨_, rfl, rfl, Below.refl _ _⟩
          · cases ho; have e := hd' 0 (by kernel_rfl) _ rfl; exact opv (r_ldB _ w4 _ _ _ _ _ rfl e c11) ⟨_, rfl, rfl, Below.refl _ _⟩
          · cases ho; have e := hd' 1 (by kernel_rfl) _ rfl; exact opv (r_not _ w4 _ _ _ rfl e) ⟨_, rfl, rfl, Below.refl _ _⟩
          · cases ho; have e := hd' 2 (by kernel_rfl) _ rfl; exact opv (r_mov _ w4 _ _ _ rfl e) ⟨_, rfl, rfl, Below.refl _ _⟩
          · cases ho; have e := hd' 3 (by kernel_rfl) _ rfl; exact opv (r_pickC _ w4 _ _ _ rfl e rfl) ⟨_, rfl, rfl, Below.refl _ _⟩
        case gdF =>
          intro i o hi ho
          rcases (show i = 0 ∨ i = 1 ∨ i = 2 ∨ i = 3 ∨ i = 4 ∨ i = 5 ∨ i = 6 ∨ i = 7 ∨ i = 8 ∨ i = 9 ∨ i = 10 ∨ i = 11 ∨ i = 12 ∨ i = 13 by omega) with rfl | rfl | rfl | rfl | rfl | rfl | rfl | rfl | rfl | rfl | rfl | rfl | rfl | rfl
          all_goals
            cases ho
            first
              | exact ⟨fun _ => rfl, fun j b hg => by cases hg⟩
              | exact ⟨fun hg => (by cases hg), fun j b hg => (by cases hg; exact ⟨List.contains_iff_mem.1 (by kernel_rfl), fun h => (by cases h), fun _ => ⟨fun v w h => h, fun w => trivial⟩⟩)⟩
        case tailF =>
          intro a w4 hL hG hA
          have e43 : a.eval (.tmp 43) = .bool true := hA 13 _ (by decide) rfl
          obtain ⟨t0', ht0⟩ : ∃ u, a.eval (.tmp 0) = u := ⟨_, rfl⟩
          obtain ⟨t1', ht1⟩ : ∃ u, a.eval (.tmp 1) = u := ⟨_, rfl⟩
          obtain ⟨t2', ht2⟩ : ∃ u, a.eval (.tmp 2) = u := ⟨_, rfl⟩
          obtain ⟨t3', ht3⟩ : ∃ u, a.eval (.tmp 3) = u := ⟨_, rfl⟩
          obtain ⟨t4', ht4⟩ : ∃ u, a.eval (.tmp 4) = u := ⟨_, rfl⟩
          obtain ⟨t5', ht5⟩ : ∃ u, a.eval (.tmp 5) = u := ⟨_, rfl⟩
          obtain ⟨t6', ht6⟩ : ∃ u, a.eval (.tmp 6) = u := ⟨_, rfl⟩
          obtain ⟨t7', ht7⟩ : ∃ u, a.eval (.tmp 7) = u := ⟨_, rfl⟩
          obtain ⟨t8', ht8⟩ : ∃ u, a.eval (.tmp 8) = u := ⟨_, rfl⟩
          obtain ⟨t9', ht9⟩ : ∃ u, a.eval (.tmp 9) = u := ⟨_, rfl⟩
          obtain ⟨t10', ht10⟩ : ∃ u, a.eval (.tmp 10) = u := ⟨_, rfl⟩
          obtain ⟨t11', ht11⟩ : ∃ u, a.eval (.tmp 11) = u := ⟨_, rfl⟩
          obtain ⟨t12', ht12⟩ : ∃ u, a.eval (.tmp 12) = u := ⟨_, rfl⟩
          obtain ⟨t13', ht13⟩ : ∃ u, a.eval (.tmp 13) = u := ⟨_, rfl⟩
          obtain ⟨t14', ht14⟩ : ∃ u, a.eval (.tmp 14) = u := ⟨_, rfl⟩
          obtain ⟨t15', ht15⟩ : ∃ u, a.eval (.tmp 15) = u := ⟨_, rfl⟩
          obtain ⟨t16', ht16⟩ : ∃ u, a.eval (.tmp 16) = u := ⟨_, rfl⟩
          obtain ⟨t17', ht17⟩ : ∃ u, a.eval (.tmp 17) = u := ⟨_, rfl⟩
          obtain ⟨t18', ht18⟩ : ∃ u, a.eval (.tmp 18) = u := ⟨_, rfl⟩
          obtain ⟨t19', ht19⟩ : ∃ u, a.eval (.tmp 19) = u := ⟨_, rfl⟩
          obtain ⟨t20', ht20⟩ : ∃ u, a.eval (.tmp 20) = u := ⟨_, rfl⟩
          obtain ⟨t21', ht21⟩ : ∃ u, a.eval (.tmp 21) = u := ⟨_, rfl⟩
          obtain ⟨t22', ht22⟩ : ∃ u, a.eval (.tmp 22) = u := ⟨_, rfl⟩
          obtain ⟨t23', ht23⟩ : ∃ u, a.eval (.tmp 23) = u := ⟨_, rfl⟩
          obtain ⟨t24', ht24⟩ : ∃ u, a.eval (.tmp 24) = u := ⟨_, rfl⟩
          obtain ⟨t25', ht25⟩ : ∃ u, a.eval (.tmp 25) = u := ⟨_, rfl⟩
          obtain ⟨t26', ht26⟩ : ∃ u, a.eval (.tmp 26) = u := ⟨_, rfl⟩
          obtain ⟨t27', ht27⟩ : ∃ u, a.eval (.tmp 27) = u := ⟨_, rfl⟩
          obtain ⟨t28', ht28⟩ : ∃ u, a.eval (.tmp 28) = u := ⟨_, rfl⟩
          obtain ⟨t29', ht29⟩ : ∃ u, a.eval (.tmp 29) = u := ⟨_, rfl⟩
          obtain ⟨t30', ht30⟩ : ∃ u, a.eval (.tmp 30) = u := ⟨_, rfl⟩
          obtain ⟨t31', ht31⟩ : ∃ u, a.eval (.tmp 31) = u := ⟨_, rfl⟩
          obtain ⟨t32', ht32⟩ : ∃ u, a.eval (.tmp 32) = u := ⟨_, rfl⟩
          obtain ⟨t33', ht33⟩ : ∃ u, a.eval (.tmp 33) = u := ⟨_, rfl⟩
          obtain ⟨t34', ht34⟩ : ∃ u, a.eval (.tmp 34) = u := ⟨_, rfl⟩
          obtain ⟨t35', ht35⟩ : ∃ u, a.eval (.tmp 35) = u := ⟨_, rfl⟩
          obtain ⟨t36', ht36⟩ : ∃ u, a.eval (.tmp 36) = u := ⟨_, rfl⟩
          obtain ⟨t37', ht37⟩ : ∃ u, a.eval (.tmp 37) = u := ⟨_, rfl⟩
          obtain ⟨t38', ht38⟩ : ∃ u, a.eval (.tmp 38) = u := ⟨_, rfl⟩
          obtain ⟨t39', ht39⟩ : ∃ u, a.eval (.tmp 39) = u := ⟨_, rfl⟩
          obtain ⟨t40', ht40⟩ : ∃ u, a.eval (.tmp 40) = u := ⟨_, rfl⟩
          obtain ⟨t41', ht41⟩ : ∃ u, a.eval (.tmp 41) = u := ⟨_, rfl⟩
          obtain ⟨t42', ht42⟩ : ∃ u, a.eval (.tmp 42) = u := ⟨_, rfl⟩
          obtain ⟨t44', ht44⟩ : ∃ u, a.eval (.tmp 44) = u := ⟨_, rfl⟩
          obtain ⟨t45', ht45⟩ : ∃ u, a.eval (.tmp 45) = u := ⟨_, rfl⟩
          obtain ⟨t46', ht46⟩ : ∃ u, a.eval (.tmp 46) = u := ⟨_, rfl⟩
          obtain ⟨t47', ht47⟩ : ∃ u, a.eval (.tmp 47) = u := ⟨_, rfl⟩
          obtain ⟨t48', ht48⟩ : ∃ u, a.eval (.tmp 48) = u := ⟨_, rfl⟩
          obtain ⟨t49', ht49⟩ : ∃ u, a.eval (.tmp 49) = u := ⟨_, rfl⟩
          have hact : a = { tmps := #[t0', t1', t2', t3', t4', t5', t6', t7', t8', t9', t10', t11', t12', t13', t14', t15', t16', t17', t18', t19', t20', t21', t22', t23', t24', t25', t26', t27', t28', t29', t30', t31', t32', t33', t34', t35', t36', t37', t38', t39', t40', t41', t42', .bool true, t44', t45', t46', t47', t48', t49'], defers := [] } := by
            refine (act_lit (n := 50) (hL.size.trans (by kernel_rfl)) hL.defers).trans ?_
            congr 1
            simp only [List.size_toArray, List.length_cons, List.length_nil, List.range, List.range.loop, Nat.reduceAdd, List.map, e43, ht0, ht1, ht2, ht3, ht4, ht5, ht6, ht7, ht8, ht9, ht10, ht11, ht12, ht13, ht14, ht15, ht16, ht17, ht18, ht19, ht20, ht21, ht22, ht23, ht24, ht25, ht26, ht27, ht28, ht29, ht30, ht31, ht32, ht33, ht34, ht35, ht36, ht37, ht38, ht39, ht40, ht41, ht42, ht44, ht45, ht46, ht47, ht48, ht49]
          have HBF := hide (HBE.out.trans (hG.mono HBE.out.size))
          rw [hact]
          clear hact e43 hL hA hG ht0 ht1 ht2 ht3 ht4 ht5 ht6 ht7 ht8 ht9 ht10 ht11 ht12 ht13 ht14 ht15 ht16 ht17 ht18 ht19 ht20 ht21 ht22 ht23 ht24 ht25 ht26 ht27 ht28 ht29 ht30 ht31 ht32 ht33 ht34 ht35 ht36 ht37 ht38 ht39 ht40 ht41 ht42 ht44 ht45 ht46 ht47 ht48 ht49
          clear a
          rename_i Q' K hK
          refine hK _ _ ?_
          clear hK K
          go_wp2_with fail
          go_ret2
          exact ⟨.inr ⟨HBD.out, rfl⟩, HBF.out⟩
      | true =>
        have HROW := hide HNW.out
        obtain ⟨q, rfl⟩ : ∃ q, p = some q := Option.isSome_iff_exists.1 HE3.out
        have HGQ := hide (HPG.out _ q HPE.out)
        have HRQ : Hid (recI q = #[.int .u32 (num : Int), .int .i64 (age : Int), .int .i64 (slots : Int), .int .i64 c0, .int .i64 c1, .int .i64 c2, .int .i64 st, .int .i64 z0, .int .i64 z1, .int .i64 z2, .int .i64 z3]) := hide HE4.out
        obtain ⟨q1, hq1⟩ : ∃ q1, rs[k - 1]? = some q1 := ⟨_, List.getElem?_eq_getElem (by rw [HK.out]; omega)⟩
        have HQ1 := hide hq1
        have HG1 : Hid (GdR q1 slots0) := hide (by
          obtain ⟨p1, p2⟩ := HBZ.out.pl (k - 1) q1 hq1
          by_cases e : k - 1 = 0
          · rw [p1 e]; exact HR.out
          · exact HPG.out _ q1 (p2 (by omega)))
        have HRG : Hid (w3.rangeAt g2 ((k - 1) * 11) (recI q1).toList) := hide ((by have := HBZ.out.row; rw [← HK.out] at this; exact this : RRow w3 (.slice (some ⟨g2, 0, none⟩) rs.length cap2) rs).range hq1)
        have HRB : Hid (w3.rangeAt bx 0 [.int .u32 (num : Int), .int .i64 (age : Int), .int .i64 (slots : Int), .int .i64 c0, .int .i64 c1, .int .i64 c2, .int .i64 st, .int .i64 z0, .int .i64 z1, .int .i64 z2, .int .i64 z3]) := hide (rangeTake HNW.out rfl)
        have HSZ : Hid (w.heap.size < g2 ∧ g2 < w3.heap.size ∧ bx < w3.heap.size) := hide ⟨HBZ.out.own g2 rfl, by obtain ⟨cs, hc⟩ := rowCells HBZ.out.row (g := g2) rfl; exact (Array.getElem?_eq_some_iff.1 hc).1, (Array.getElem?_eq_some_iff.1 HNW.out).1⟩
        clear hq1 HE3 HE4 HNW
        generalize hFO : Fol q1 q = FO at *
        have HFO := hide hFO
        refine wp_region_specG (by kernel_rfl) 14 (by decide) (by kernel_rfl) (fun x y => Below x.heap.size x y) ⟨rfl, rfl, rfl, Nat.le_refl _, fun _ _ => rfl⟩ (fun x y z h k => h.trans (k.mono h.size))
          (fun i v x => (([.ex (.pointer (some ⟨bx, 11, none⟩)), .ex (.bool true), .ex (.bool false), .ex (.bool false), .ex (.slice (some ⟨g2, 0, none⟩) k cap2), .ex (.int .i64 (k : Int)), .ex (.int .i64 ((k - 1 : Nat) : Int)), .ex (.pointer (some ⟨g2, (k - 1) * 11, none⟩)), .ex (.agg (recI q1)), .ex (.pointer (some ⟨bx, 0, none⟩)), .ex (.agg (recI q)), .of (fun v _ => ∃ b : Bool, v = .bool b ∧ (b = true ↔ FO)) (fun _ _ _ h _ => h), .of (fun v _ => ∃ b : Bool, v = .bool (!b) ∧ (b = true ↔ FO)) (fun _ _ _ h _ => h), .of (fun v _ => ∃ b : Bool, v = .bool (!b) ∧ (b = true ↔ FO)) (fun _ _ _ h _ => h)] : List Dv).getD i (.of (fun _ _ => True) (fun _ _ _ _ _ => trivial))).holds v x) (fun i v x y h hb => Dv.stays h hb) ?step ?gd ?tail
        case step =>
          intro i o a w4 hi ho hL hG hd
          have hd' : ∀ j, (depsOf _ i).contains j = true → _ := fun j hj => hd j (by simpa using hj)
          have h6 : a.eval (.tmp 6) = .slice (some ⟨g2, 0, none⟩) k cap2 := hL.ev 6 (by kernel_rfl) rfl
          have h7 : a.eval (.tmp 7) = .int .i64 (k : Int) := hL.ev 7 (by kernel_rfl) rfl
          have h8 : a.eval (.tmp 8) = .pointer (some ⟨bx, 0, none⟩) := hL.ev 8 (by kernel_rfl) rfl
          have c11 : w4.cell? ⟨bx, 11, none⟩ = some (.bool true) := cell_of_row _ _ _ _ _ _ ((hG.block _ HSZ.out.2.2).trans HROW.out)
          have hrg : w4.rangeAt g2 ((k - 1) * 11) (recI q1).toList := fun j v hj => by rw [hG.cell HSZ.out.2.1]; exact HRG.out j v hj
          have hrb : w4.rangeAt bx 0 (recI q).toList := fun j v hj => by rw [hG.cell HSZ.out.2.2]; rw [HRQ.out] at hj; exact HRB.out j v hj
          have hRs : ∀ r' : Rc, (Try.prog.info? 90).map (·.size) = some (recI r').toList.length := fun r' => by rw [recI_len]; exact recSize
          clear hd hL
          rcases (show i = 0 ∨ i = 1 ∨ i = 2 ∨ i = 3 ∨ i = 4 ∨ i = 5 ∨ i = 6 ∨ i = 7 ∨ i = 8 ∨ i = 9 ∨ i = 10 ∨ i = 11 ∨ i = 12 ∨ i = 13 by omega) with rfl | rfl | rfl | rfl | rfl | rfl | rfl | rfl | rfl | rfl | rfl | rfl | rfl | rfl
          · cases ho; exact opv (r_fldP _ w4 _ _ _ _ (.inr rfl) rfl h8) ⟨_, rfl, rfl, Below.refl _ _⟩
          · cases ho; have e := hd' 0 (by kernel_rfl) _ rfl; exact opv (r_ldB _ w4 _ _ _ _ _ rfl e c11) ⟨_, rfl, rfl, Below.refl _ _⟩
          · cases ho; have e := hd' 1 (by kernel_rfl) _ rfl; exact opv (r_not _ w4 _ _ _ rfl e) ⟨_, rfl, rfl, Below.refl _ _⟩
          · cases ho; have e := hd' 2 (by kernel_rfl) _ rfl; exact opv (r_mov _ w4 _ _ _ rfl e) ⟨_, rfl, rfl, Below.refl _ _⟩
          · cases ho; exact opv (r_mov _ w4 _ _ _ rfl h6) ⟨_, rfl, rfl, Below.refl _ _⟩
          · cases ho; exact opv (r_mov _ w4 _ _ _ rfl h7) ⟨_, rfl, rfl, Below.refl _ _⟩
          · cases ho; have e := hd' 5 (by kernel_rfl) _ rfl; exact opv (r_sub1 _ w4 _ _ _ rfl e rfl hk3 (by omega)) ⟨_, rfl, rfl, Below.refl _ _⟩
          · cases ho; have e := hd' 4 (by kernel_rfl) _ rfl; have e2 := hd' 6 (by kernel_rfl) _ rfl; exact opv (r_idxR _ w4 _ _ _ _ _ _ _ rfl e e2 (by omega)) ⟨_, rfl, rfl, Below.refl _ _⟩
          · cases ho; have e := hd' 7 (by kernel_rfl) _ rfl; exact wp_load_mid 90 (.tmp 37) rfl g2 ((k - 1) * 11) e (recI q1).toList _ hrg Try.underlying90 rfl (hRs q1) ⟨_, rfl, rfl, Below.refl _ _⟩
          · cases ho; exact opv (r_fldP _ w4 _ _ _ _ (.inl rfl) rfl h8) ⟨_, rfl, rfl, Below.refl _ _⟩
          · cases ho; have e := hd' 9 (by kernel_rfl) _ rfl; exact wp_load_mid 90 (.tmp 39) rfl bx 0 e (recI q).toList _ hrb Try.underlying90 rfl (hRs q) ⟨_, rfl, rfl, Below.refl _ _⟩
          · cases ho
            have e1 := hd' 8 (by kernel_rfl) _ rfl
            have e2 := hd' 10 (by kernel_rfl) _ rfl
            refine opc 70 _ (r_callF _ w4 _ _ _ rfl e1 e2 rfl) (folR_any w4 q1 q slots0 hs1 hs2 HG1.out HGQ.out) (fun e w5 h => ?_)
            obtain ⟨b, hb1, hb2, hb3⟩ := h
            exact ⟨_, hb1, _, rfl, ⟨b, rfl, by rw [← HFO.out]; exact hb2⟩, hb3⟩
          · cases ho
            obtain ⟨b, e, hb⟩ := hd' 11 (by kernel_rfl) _ rfl
            exact opv (r_not _ w4 _ _ _ rfl e) ⟨_, rfl, ⟨b, rfl, hb⟩, Below.refl _ _⟩
          · cases ho
            have e0 := hd' 3 (by kernel_rfl) _ rfl
            obtain ⟨b, e, hb⟩ := hd' 12 (by kernel_rfl) _ rfl
            exact opv (r_pickT _ w4 _ _ _ _ rfl e0 e rfl) ⟨_, rfl, ⟨b, rfl, hb⟩, Below.refl _ _⟩
        case gd =>
          intro i o j b hi ho hg
          rcases (show i = 0 ∨ i = 1 ∨ i = 2 ∨ i = 3 ∨ i = 4 ∨ i = 5 ∨ i = 6 ∨ i = 7 ∨ i = 8 ∨ i = 9 ∨ i = 10 ∨ i = 11 ∨ i = 12 ∨ i = 13 by omega) with rfl | rfl | rfl | rfl | rfl | rfl | rfl | rfl | rfl | rfl | rfl | rfl | rfl | rfl
          all_goals
            cases ho
            cases hg
          all_goals exact ⟨List.contains_iff_mem.1 (by kernel_rfl), fun v w h => h⟩
        case tail =>
          intro a w4 hL hG hA
          have e0 : a.eval (.tmp 0) = .slice (some ⟨g, 0, none⟩) n n := hL.ev 0 (by kernel_rfl) rfl
          have e3 : a.eval (.tmp 3) = .pointer (some ⟨w.heap.size, 0, none⟩) := hL.ev 3 (by kernel_rfl) rfl
          have e6 : a.eval (.tmp 6) = .slice (some ⟨g2, 0, none⟩) k cap2 := hL.ev 6 (by kernel_rfl) rfl
          have e7 : a.eval (.tmp 7) = .int .i64 (k : Int) := hL.ev 7 (by kernel_rfl) rfl
          have e8 : a.eval (.tmp 8) = .pointer (some ⟨bx, 0, none⟩) := hL.ev 8 (by kernel_rfl) rfl
          have e1 : a.eval (.tmp 1) = .agg (recV rn ra rsl d0 d1 d2 rst y0 y1 y2 y3) := hL.ev 1 (by kernel_rfl) rfl
          have e2 : a.eval (.tmp 2) = undef := hL.ev 2 (by kernel_rfl) rfl
          have e9 : a.eval (.tmp 9) = .agg #[.int .u32 (rn : Int), .int .i64 (ra : Int), .int .i64 (rsl : Int), .int .i64 d0, .int .i64 d1, .int .i64 d2, .int .i64 rst, .int .i64 y0, .int .i64 y1, .int .i64 y2, .int .i64 y3] := hL.ev 9 (by kernel_rfl) rfl
          have e10 : a.eval (.tmp 10) = .slice (some ⟨w.heap.size + 1, 0, none⟩) 1 1 := hL.ev 10 (by kernel_rfl) rfl
          have e49 : a.eval (.tmp 49) = undef := hL.ev 49 (by kernel_rfl) rfl
          obtain ⟨b2, e43', hb2⟩ := hA 13 _ (by decide) rfl
          have e43 : a.eval (.tmp 43) = .bool (!b2) := e43'
          clear e43'
          obtain ⟨u4', hu4⟩ : ∃ u, a.eval (.tmp 4) = u := ⟨_, rfl⟩
          obtain ⟨u5', hu5⟩ : ∃ u, a.eval (.tmp 5) = u := ⟨_, rfl⟩
          obtain ⟨u11', hu11⟩ : ∃ u, a.eval (.tmp 11) = u := ⟨_, rfl⟩
          obtain ⟨u12', hu12⟩ : ∃ u, a.eval (.tmp 12) = u := ⟨_, rfl⟩
          obtain ⟨u13', hu13⟩ : ∃ u, a.eval (.tmp 13) = u := ⟨_, rfl⟩
          obtain ⟨u14', hu14⟩ : ∃ u, a.eval (.tmp 14) = u := ⟨_, rfl⟩
          obtain ⟨u15', hu15⟩ : ∃ u, a.eval (.tmp 15) = u := ⟨_, rfl⟩
          obtain ⟨u16', hu16⟩ : ∃ u, a.eval (.tmp 16) = u := ⟨_, rfl⟩
          obtain ⟨u17', hu17⟩ : ∃ u, a.eval (.tmp 17) = u := ⟨_, rfl⟩
          obtain ⟨u18', hu18⟩ : ∃ u, a.eval (.tmp 18) = u := ⟨_, rfl⟩
          obtain ⟨u19', hu19⟩ : ∃ u, a.eval (.tmp 19) = u := ⟨_, rfl⟩
          obtain ⟨u20', hu20⟩ : ∃ u, a.eval (.tmp 20) = u := ⟨_, rfl⟩
          obtain ⟨u21', hu21⟩ : ∃ u, a.eval (.tmp 21) = u := ⟨_, rfl⟩
          obtain ⟨u22', hu22⟩ : ∃ u, a.eval (.tmp 22) = u := ⟨_, rfl⟩
          obtain ⟨u23', hu23⟩ : ∃ u, a.eval (.tmp 23) = u := ⟨_, rfl⟩
          obtain ⟨u24', hu24⟩ : ∃ u, a.eval (.tmp 24) = u := ⟨_, rfl⟩
          obtain ⟨u25', hu25⟩ : ∃ u, a.eval (.tmp 25) = u := ⟨_, rfl⟩
          obtain ⟨u26', hu26⟩ : ∃ u, a.eval (.tmp 26) = u := ⟨_, rfl⟩
          obtain ⟨u27', hu27⟩ : ∃ u, a.eval (.tmp 27) = u := ⟨_, rfl⟩
          obtain ⟨u28', hu28⟩ : ∃ u, a.eval (.tmp 28) = u := ⟨_, rfl⟩
          obtain ⟨u29', hu29⟩ : ∃ u, a.eval (.tmp 29) = u := ⟨_, rfl⟩
          obtain ⟨u30', hu30⟩ : ∃ u, a.eval (.tmp 30) = u := ⟨_, rfl⟩
          obtain ⟨u31', hu31⟩ : ∃ u, a.eval (.tmp 31) = u := ⟨_, rfl⟩
          obtain ⟨u32', hu32⟩ : ∃ u, a.eval (.tmp 32) = u := ⟨_, rfl⟩
          obtain ⟨u33', hu33⟩ : ∃ u, a.eval (.tmp 33) = u := ⟨_, rfl⟩
          obtain ⟨u34', hu34⟩ : ∃ u, a.eval (.tmp 34) = u := ⟨_, rfl⟩
          obtain ⟨u35', hu35⟩ : ∃ u, a.eval (.tmp 35) = u := ⟨_, rfl⟩
          obtain ⟨u36', hu36⟩ : ∃ u, a.eval (.tmp 36) = u := ⟨_, rfl⟩
          obtain ⟨u37', hu37⟩ : ∃ u, a.eval (.tmp 37) = u := ⟨_, rfl⟩
          obtain ⟨u38', hu38⟩ : ∃ u, a.eval (.tmp 38) = u := ⟨_, rfl⟩
          obtain ⟨u39', hu39⟩ : ∃ u, a.eval (.tmp 39) = u := ⟨_, rfl⟩
          obtain ⟨u40', hu40⟩ : ∃ u, a.eval (.tmp 40) = u := ⟨_, rfl⟩
          obtain ⟨u41', hu41⟩ : ∃ u, a.eval (.tmp 41) = u := ⟨_, rfl⟩
          obtain ⟨u42', hu42⟩ : ∃ u, a.eval (.tmp 42) = u := ⟨_, rfl⟩
          obtain ⟨u44', hu44⟩ : ∃ u, a.eval (.tmp 44) = u := ⟨_, rfl⟩
          obtain ⟨u45', hu45⟩ : ∃ u, a.eval (.tmp 45) = u := ⟨_, rfl⟩
          obtain ⟨u46', hu46⟩ : ∃ u, a.eval (.tmp 46) = u := ⟨_, rfl⟩
          obtain ⟨u47', hu47⟩ : ∃ u, a.eval (.tmp 47) = u := ⟨_, rfl⟩
          obtain ⟨u48', hu48⟩ : ∃ u, a.eval (.tmp 48) = u := ⟨_, rfl⟩
          have hact : a = { tmps := #[.slice (some ⟨g, 0, none⟩) n n, .agg (recV rn ra rsl d0 d1 d2 rst y0 y1 y2 y3), undef, .pointer (some ⟨w.heap.size, 0, none⟩), u4', u5', .slice (some ⟨g2, 0, none⟩) k cap2, .int .i64 (k : Int), .pointer (some ⟨bx, 0, none⟩), .agg #[.int .u32 (rn : Int), .int .i64 (ra : Int), .int .i64 (rsl : Int), .int .i64 d0, .int .i64 d1, .int .i64 d2, .int .i64 rst, .int .i64 y0, .int .i64 y1, .int .i64 y2, .int .i64 y3], .slice (some ⟨w.heap.size + 1, 0, none⟩) 1 1, u11', u12', u13', u14', u15', u16', u17', u18', u19', u20', u21', u22', u23', u24', u25', u26', u27', u28', u29', u30', u31', u32', u33', u34', u35', u36', u37', u38', u39', u40', u41', u42', .bool (!b2), u44', u45', u46', u47', u48', undef], defers := [] } := by
            refine (act_lit (n := 50) (hL.size.trans (by kernel_rfl)) hL.defers).trans ?_
            congr 1
            simp only [List.size_toArray, List.length_cons, List.length_nil, List.range, List.range.loop, Nat.reduceAdd, List.map, e0, e1, e2, e3, e6, e7, e8, e9, e10, e49, e43, hu4, hu5, hu11, hu12, hu13, hu14, hu15, hu16, hu17, hu18, hu19, hu20, hu21, hu22, hu23, hu24, hu25, hu26, hu27, hu28, hu29, hu30, hu31, hu32, hu33, hu34, hu35, hu36, hu37, hu38, hu39, hu40, hu41, hu42, hu44, hu45, hu46, hu47, hu48]
          have HRU4 := hide (HBZ.out.below hG)
          have HRB4 : Hid (w4.rangeAt bx 0 [.int .u32 (num : Int), .int .i64 (age : Int), .int .i64 (slots : Int), .int .i64 c0, .int .i64 c1, .int .i64 c2, .int .i64 st, .int .i64 z0, .int .i64 z1, .int .i64 z2, .int .i64 z3]) := hide fun j v hj => by rw [hG.cell HSZ.out.2.2]; exact HRB.out j v hj
          have HB2 := hide hb2
          rw [hact]
          clear hact e0 e1 e2 e3 e6 e7 e8 e9 e10 e49 e43 hL hA hG hb2 hu4 hu5 hu11 hu12 hu13 hu14 hu15 hu16 hu17 hu18 hu19 hu20 hu21 hu22 hu23 hu24 hu25 hu26 hu27 hu28 hu29 hu30 hu31 hu32 hu33 hu34 hu35 hu36 hu37 hu38 hu39 hu40 hu41 hu42 hu44 hu45 hu46 hu47 hu48
          clear a
          rename_i Q' K hK
          refine hK _ _ ?_
          clear hK K HRG HRB HROW HBZ
          cases b2 with
          | false =>
            have HBD : Hid (RunBad P r) := hide ⟨k, hk3, by rw [HN.out]; exact hkn, by rw [HRA.out]; exact hka, .inr ⟨q1, q, by
              obtain ⟨p1, p2⟩ := HRU4.out.pl (k - 1) q1 HQ1.out
              by_cases e : k = 1
              · exact .inl ⟨e, p1 (by omega)⟩
              · exact .inr ⟨by omega, p2 (by omega)⟩, HPE.out, fun hf => by
              rw [HFO.out] at hf
              have := HB2.out.2 hf
              cases this⟩⟩
            go_wp2_with fail
            go_ret2
            exact ⟨.inr ⟨HBD.out, rfl⟩, HRU4.out.be⟩
          | true =>
            obtain ⟨i0, hi, hz0, hz1, hz2⟩ := info_parts info_rec
            have HMORE : Hid (∀ w6 v6 o, w6.ownsRow 0 90 11 v6 (k + 1) (flR rs ++ [.int .u32 (num : Int), .int .i64 (age : Int), .int .i64 (slots : Int), .int .i64 c0, .int .i64 c1, .int .i64 c2, .int .i64 st, .int .i64 z0, .int .i64 z1, .int .i64 z2, .int .i64 z3]) → UponC (w4.alloc o) w6 (.slice (some ⟨g2, 0, none⟩) k cap2) v6 → RuW w w6 P r (rs ++ [q]) v6) := hide fun w6 v6 o ho hu => by
              refine HRU4.out.more (by rw [HK.out]; exact hk3) (by rw [HK.out, HRQ.out]; exact ho) hu (by rw [HK.out]; exact HPE.out) fun q1' hq1' => ?_
              rw [HK.out, HQ1.out] at hq1'
              cases hq1'
              rw [HFO.out]
              exact HB2.out.1 rfl
            have HOWN : Hid (∀ o, (w4.alloc o).ownsRow 0 90 11 (.slice (some ⟨g2, 0, none⟩) k cap2) k (flR rs)) := hide fun o => by
              have := (HRU4.out.below ((Below.refl _ _).alloc (Nat.le_refl _) o)).row
              unfold RRow at this
              rw [HK.out] at this
              exact this
            have HLEN : Hid ((rs ++ [q]).length = k + 1) := hide (by simp [HK.out])
            clear hs1 hs2 HPG HFIN HRBX HB2 HSZ HQ1 HPE HFO hFO
            go_wp2_with (first
              | refine wpList_load_mid rfl 90 (.tmp 45) rfl bx 0 rfl [.int .u32 (num : Int), .int .i64 (age : Int), .int .i64 (slots : Int), .int .i64 c0, .int .i64 c1, .int .i64 c2, .int .i64 st, .int .i64 z0, .int .i64 z1, .int .i64 z2, .int .i64 z3] _ HRB4.out Try.underlying90 rfl recSize ?_
              | (refine wpList_appendC _ rfl (.tmp 44) (.tmp 47) 93 rfl 90 i0 (.agg zrec) 11 88 Try.underlying93 hi hz0 hz1 hz2 rfl (by decide) (.slice (some ⟨g2, 0, none⟩) k cap2) k (flR rs) rfl (HOWN.out _) ⟨w4.heap.size, 0, none⟩ 1 1 [.int .u32 (num : Int), .int .i64 (age : Int), .int .i64 (slots : Int), .int .i64 c0, .int .i64 c1, .int .i64 c2, .int .i64 st, .int .i64 z0, .int .i64 z1, .int .i64 z2, .int .i64 z3] rfl rfl (by decide) (fun j u hj => by rw [Addr.add_lit, Nat.zero_add]; exact (rangeTake (Go.heap_alloc_new w4 (.cells #[.int .u32 (num : Int), .int .i64 (age : Int), .int .i64 (slots : Int), .int .i64 c0, .int .i64 c1, .int .i64 c2, .int .i64 st, .int .i64 z0, .int .i64 z1, .int .i64 z2, .int .i64 z3] 90)) rfl) j u hj ▸ (by simp)) (by intro u hu; simp only [List.mem_cons, List.not_mem_nil, or_false] at hu; rcases hu with rfl | rfl | rfl | rfl | rfl | rfl | rfl | rfl | rfl | rfl | rfl <;> rfl) (by unfold maxLen; omega) (by omega) ?_; intro v6 w6 ho6 hu6; have HM6 := hide (HMORE.out _ _ _ ho6 hu6); clear ho6 hu6))
            go_roundw
            case rel => exact ⟨rs ++ [q], by rw [HLEN.out]; omega, by rw [HLEN.out]; omega, by rw [HLEN.out]; omega, by rw [HLEN.out]; go_num, HM6.out⟩
            case measure => simp [intOf]; omega
    · have HRUN : Hid (Run P r rs) := hide (HFIN.out rs HRU.out.pl HRU.out.fo (by rw [HK.out, HRA.out]; omega))
      have HP : Hid (RRow wr (.slice (some ⟨g2, 0, none⟩) k cap2) rs ∧ (∀ b, (Value.slice (some ⟨g2, 0, none⟩) k cap2).ownBlock = some b → w.heap.size ≤ b) ∧ Below w.heap.size w wr) := hide ⟨by have := HRU.out.row; exact this, fun b e => by have := HRU.out.own b e; omega, HRU.out.be⟩
      by_cases hkn : k < n
      · have hka : ¬ (k : Int) ≤ (ra : Int) := by omega
        have hkn2 : (k : Int) < (n : Int) := by omega
        go_wp2_with fail
        go_ret2
        exact ⟨.inl ⟨rs, _, HRUN.out, rfl, HP.out.1, HP.out.2.1⟩, HP.out.2.2⟩
      · go_wp2_with fail
        go_ret2
        exact ⟨.inl ⟨rs, _, HRUN.out, rfl, HP.out.1, HP.out.2.1⟩, HP.out.2.2⟩
end Go.Proofs.Ytlkccencilhacaa
