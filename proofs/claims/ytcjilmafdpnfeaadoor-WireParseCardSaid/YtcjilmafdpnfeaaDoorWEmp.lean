import Derived.Test.YtcjilmafdpnfeaaDoorWParts
import Derived.Stop.BytesEq
import Derived.Laws.Cover3
import Derived.ChangeKeysEq
import Derived.Laws.CopyOwn
namespace Go.Proofs.YtcjilmafdpnfeaaDoor
open Go.RowKit
set_option linter.unusedVariables false
set_option linter.unusedSimpArgs false
set_option maxRecDepth 20000

/-- a whole array loaded under a guard that holds -/
theorem wpList_load_midW {P : Program} {ops : Array Oper} {rest : List Oper} {op : Oper} {a : Act} {w : World} {Q : Exit → Act → World → Prop} (hw : Region.wanted op (yielded ops a.tmps) = true) (ty : TypeId) (x : Operand) (ho : op.op = .load ty x)
    (b o : Nat) (hx : a.eval x = .pointer (some ⟨b, o, none⟩)) (cs : List Value) (d : TypeDesc) (hc : w.rangeAt b o cs)
    (hu : P.underlying ty = some d) (hd : d.isRow = true) (hi : (P.info? ty).map (·.size) = some cs.length)
    (h : wpList P ops Q rest (a.put op.dst (.agg cs.toArray)) w) : wpList P ops Q (op :: rest) a w :=
  wpList_step fun K hK => by rw [if_pos hw]; exact wp_load_mid ty x ho b o hx cs d hc hu hd hi (hK _ _ h)

theorem Tryd.infoU8 : (Tryd.prog.info? 5).map (fun i => (i.zero, i.size, i.bytes)) = some (some (.int .u8 0), 1, 1) := by kernel_rfl
theorem size_u8 : ∀ w, (sizeOf 5).run Tryd.prog w = .ok 1 w := fun w => by
  obtain ⟨i0, hi, hz0, hz1, hz2⟩ := info_parts Tryd.infoU8
  simp [sizeOf, typeInfo, hi, hz1]
theorem map_cell {l : List Nat} (h : ∀ x ∈ l, x < 256) : u8L l = (l.map UInt8.ofNat).map Extern.Stop.cell := by
  unfold u8L
  rw [List.map_map]
  refine List.map_congr_left fun x hx => ?_
  have := h x hx
  simp only [Function.comp, Extern.Stop.cell]
  congr 1
  simp [UInt8.toNat_ofNat']
  omega
theorem ofNat_inj {xs ys : List Nat} (hx : ∀ x ∈ xs, x < 256) (hy : ∀ x ∈ ys, x < 256) : (xs.map UInt8.ofNat == ys.map UInt8.ofNat) = decide (xs = ys) := by
  by_cases h : xs = ys
  · subst h; simp
  · rw [decide_eq_false h, beq_eq_false_iff_ne]
    intro e
    apply h
    have e2 : (xs.map UInt8.ofNat).map UInt8.toNat = (ys.map UInt8.ofNat).map UInt8.toNat := by rw [e]
    rw [List.map_map, List.map_map] at e2
    have k : ∀ zs : List Nat, (∀ x ∈ zs, x < 256) → zs.map (UInt8.toNat ∘ UInt8.ofNat) = zs := fun zs hz => by
      conv => rhs; rw [← List.map_id zs]
      exact List.map_congr_left fun x hx => by simp [UInt8.toNat_ofNat']; have := hz x hx; omega
    rwa [k xs hx, k ys hy] at e2
theorem eql_sum {xs ys : List Nat} (hx : ∀ x ∈ xs, x < 256) (hy : ∀ x ∈ ys, x < 256) (h1 : xs.length = 32) (h2 : ys.length = 32) (w : World) :
    (binOp .eql 28 (.agg (u8L xs).toArray) (.agg (u8L ys).toArray)).run Tryd.prog w = .ok (.bool (decide (xs = ys))) w := by
  rw [map_cell hx, map_cell hy, run_eql_bytes w 28 5 32 Tryd.underlying28 Tryd.underlying5 size_u8 _ _ (by simpa using h1) (by simpa using h2), ofNat_inj hx hy]
def z32 : List Nat := List.replicate 32 0
theorem z32_all {s : List Nat} (h : s.length = 32) : s.all (· == 0) = decide (s = z32) := by
  by_cases e : s = z32
  · subst e; decide
  · rw [decide_eq_false e]
    rw [Bool.eq_false_iff]
    intro hh
    apply e
    rw [List.all_eq_true] at hh
    rw [List.eq_replicate_iff.2 ⟨h, fun x hx => by simpa using hh x hx⟩]
    rfl
theorem Tryd.infoU32 : (Tryd.prog.info? 24).map (fun i => (i.zero, i.size, i.bytes)) = some (some (.int .u32 0), 1, 4) := by kernel_rfl
theorem size_u32 : ∀ w, (sizeOf 24).run Tryd.prog w = .ok 1 w := fun w => by
  obtain ⟨i0, hi, hz0, hz1, hz2⟩ := info_parts Tryd.infoU32
  simp [sizeOf, typeInfo, hi, hz1]
theorem eql_five (a b c d e : Nat) (w : World) : (binOp .eql 47 (.agg #[.int .u32 (a : Int), .int .u32 (b : Int), .int .u32 (c : Int), .int .u32 (d : Int), .int .u32 (e : Int)]) (.agg #[.int .u32 0, .int .u32 0, .int .u32 0, .int .u32 0, .int .u32 0])).run Tryd.prog w = .ok (.bool (a == 0 && b == 0 && c == 0 && d == 0 && e == 0)) w := by
  have key : (Op.equalIn (9999 + 1) 47 (.agg #[.int .u32 (a : Int), .int .u32 (b : Int), .int .u32 (c : Int), .int .u32 (d : Int), .int .u32 (e : Int)]) (.agg #[.int .u32 0, .int .u32 0, .int .u32 0, .int .u32 0, .int .u32 0])).run Tryd.prog w = .ok (a == 0 && b == 0 && c == 0 && d == 0 && e == 0) w := by
    obtain ⟨i0, hi, hz0, hz1, hz2⟩ := info_parts Tryd.infoU32
    rw [run_equalIn_array w 9999 _ _ Tryd.underlying47 hi, show Tryd.prog.cellsOf 24 = 1 from by kernel_rfl, show List.range 5 = [0, 1, 2, 3, 4] from rfl]
    have pe : ∀ x : Nat, (Op.equalIn 9999 24 (.int .u32 (x : Int)) (.int .u32 0)).run Tryd.prog w = .ok (x == 0) w := fun x => by
      rw [run_equalIn_int w 9998 24 .u32 .u32 _ _ Tryd.underlying24]
      congr 1
      rw [Bool.eq_iff_iff]
      simp
    have px : ∀ (xs : Array Value) (i : Nat) (v : Value), xs[i]? = some v → (part 24 xs i).run Tryd.prog w = .ok v w := fun xs i v h => by
      simp [part, isAgg, run_underlying Tryd.underlying24, h]
    have pa : ∀ i, i < 5 → #[Value.int .u32 (a : Int), .int .u32 (b : Int), .int .u32 (c : Int), .int .u32 (d : Int), .int .u32 (e : Int)][i]? = some (.int .u32 ((five a b c d e i : Nat) : Int)) := fun i hi => by
      match i, hi with
      | 0, _ => rfl
      | 1, _ => rfl
      | 2, _ => rfl
      | 3, _ => rfl
      | 4, _ => rfl
    have pz : ∀ i, i < 5 → #[Value.int .u32 0, .int .u32 0, .int .u32 0, .int .u32 0, .int .u32 0][i]? = some (.int .u32 0) := fun i hi => by
      match i, hi with
      | 0, _ => rfl
      | 1, _ => rfl
      | 2, _ => rfl
      | 3, _ => rfl
      | 4, _ => rfl
    have all : ∀ is : List Nat, (∀ i ∈ is, i < 5) → (Op.eqItems 9999 24 1 #[Value.int .u32 (a : Int), .int .u32 (b : Int), .int .u32 (c : Int), .int .u32 (d : Int), .int .u32 (e : Int)] #[Value.int .u32 0, .int .u32 0, .int .u32 0, .int .u32 0, .int .u32 0] is).run Tryd.prog w = .ok (is.all fun i => five a b c d e i == 0) w := by
      intro is
      induction is with
      | nil => intro _; simp [Op.eqItems]
      | cons i is ih =>
        intro hl
        have hi : i < 5 := hl i (by simp)
        simp only [Op.eqItems, Sem.run_bind, Nat.mul_one, px _ i _ (pa i hi), px _ i _ (pz i hi), pe, Result.andThen_ok, List.all_cons]
        cases hb : (five a b c d e i == 0)
        · simp
        · simp only [Bool.not_true, Bool.false_eq_true, if_false, Bool.true_and]
          exact ih fun j hj => hl j (by simp [hj])
    rw [all _ (by decide)]
    simp only [List.all_cons, List.all_nil, Bool.and_true, five, List.getD_cons_zero, List.getD_cons_succ, Bool.and_assoc]
  rw [run_eql_struct]
  show ((Op.equalIn (9999 + 1) _ _ _).run _ _).andThen _ = _
  rw [key]
  rfl
theorem eql_gens (a b c d : Nat) (w : World) : (binOp .eql 27 (.agg #[.int .u64 (a : Int), .int .u64 (b : Int), .int .u64 (c : Int), .int .u64 (d : Int)]) (.agg #[.int .u64 0, .int .u64 0, .int .u64 0, .int .u64 0])).run Tryd.prog w = .ok (.bool (a == 0 && b == 0 && c == 0 && d == 0)) w := by
  have h1 := Tryd.underlying27
  have h2 := Tryd.underlying25
  go_simp
  by_cases e1 : a = 0 <;> by_cases e2 : b = 0 <;> by_cases e3 : c = 0 <;> by_cases e4 : d = 0 <;> simp [e1, e2, e3, e4]

end Go.Proofs.YtcjilmafdpnfeaaDoor
