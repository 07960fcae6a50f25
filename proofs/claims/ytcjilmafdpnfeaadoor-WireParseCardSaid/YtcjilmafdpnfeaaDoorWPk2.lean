import Derived.Test.YtcjilmafdpnfeaaDoorWPk
import Derived.Deep.MidRow
import Derived.Test.YtcjilmafdpnfeaaDoorWEnc
namespace Go.Proofs.YtcjilmafdpnfeaaDoor
open Go.RowKit
set_option linter.unusedVariables false
set_option linter.unusedSimpArgs false
set_option maxRecDepth 20000

/-- a packet as a value -/
def pkV (c : Int) (p : PV) (v : Value) : Value := .agg (.int .i64 c :: p.row v).toArray
theorem list32 {s : List Nat} (h : s.length = 32) : ∃ s0 s1 s2 s3 s4 s5 s6 s7 s8 s9 s10 s11 s12 s13 s14 s15 s16 s17 s18 s19 s20 s21 s22 s23 s24 s25 s26 s27 s28 s29 s30 s31 : Nat, s = [s0, s1, s2, s3, s4, s5, s6, s7, s8, s9, s10, s11, s12, s13, s14, s15, s16, s17, s18, s19, s20, s21, s22, s23, s24, s25, s26, s27, s28, s29, s30, s31] := by
  match s, h with
  | [s0, s1, s2, s3, s4, s5, s6, s7, s8, s9, s10, s11, s12, s13, s14, s15, s16, s17, s18, s19, s20, s21, s22, s23, s24, s25, s26, s27, s28, s29, s30, s31], _ => exact ⟨s0, s1, s2, s3, s4, s5, s6, s7, s8, s9, s10, s11, s12, s13, s14, s15, s16, s17, s18, s19, s20, s21, s22, s23, s24, s25, s26, s27, s28, s29, s30, s31, rfl⟩
def u8L (s : List Nat) : List Value := s.map fun (x : Nat) => Value.int .u8 (x : Int)
theorem row_eq (p : PV) (v : Value) : p.row v = [.int .u32 (p.a : Int), .int .u32 (p.b : Int), .int .u32 (p.c : Int), .int .u32 (p.d : Int), .int .u32 (p.e : Int), .int .u64 (p.g0 : Int), .int .u64 (p.g1 : Int), .int .u64 (p.g2 : Int), .int .u64 (p.g3 : Int)] ++ u8L p.s ++ [v] := rfl
theorem u8L_len (s : List Nat) : (u8L s).length = s.length := by simp [u8L]
theorem row_len {p : PV} (h : p.s.length = 32) (v : Value) : (p.row v).length = 42 := by rw [row_eq]; simp [u8L_len, h]
theorem row_sum (p : PV) (v : Value) {j : Nat} {x : Value} (h : (u8L p.s)[j]? = some x) : (p.row v)[9 + j]? = some x := by
  have hj : j < (u8L p.s).length := by
    rcases Nat.lt_or_ge j (u8L p.s).length with h1 | h1
    · exact h1
    · rw [List.getElem?_eq_none h1] at h; cases h
  rw [row_eq, List.append_assoc, List.getElem?_append_right (by simp), List.getElem?_append_left (by simpa using hj)]
  simpa using h
theorem row_dat {p : PV} (h : p.s.length = 32) (v : Value) : (p.row v)[41]? = some v := by
  rw [row_eq, List.getElem?_append_right (by simp [u8L_len, h])]
  simp [u8L_len, h]

theorem PM.five {w : World} {pb : Nat} {p : PV} {v : Value} (h : PM w pb p v) : P5 w pb p.a p.b p.c p.d p.e :=
  ⟨by rw [cell_of_row _ _ _ _ _ _ h.row]; rfl, by rw [cell_of_row _ _ _ _ _ _ h.row]; rfl, by rw [cell_of_row _ _ _ _ _ _ h.row]; rfl, by rw [cell_of_row _ _ _ _ _ _ h.row]; rfl, by rw [cell_of_row _ _ _ _ _ _ h.row]; rfl⟩
theorem PM.gens {w : World} {pb : Nat} {p : PV} {v : Value} (h : PM w pb p v) : w.cell? ⟨pb, 5, none⟩ = some (.int .u64 (p.g0 : Int)) ∧ w.cell? ⟨pb, 6, none⟩ = some (.int .u64 (p.g1 : Int)) ∧ w.cell? ⟨pb, 7, none⟩ = some (.int .u64 (p.g2 : Int)) ∧ w.cell? ⟨pb, 8, none⟩ = some (.int .u64 (p.g3 : Int)) :=
  ⟨by rw [cell_of_row _ _ _ _ _ _ h.row]; rfl, by rw [cell_of_row _ _ _ _ _ _ h.row]; rfl, by rw [cell_of_row _ _ _ _ _ _ h.row]; rfl, by rw [cell_of_row _ _ _ _ _ _ h.row]; rfl⟩
theorem PM.rng {w : World} {pb : Nat} {p : PV} {v : Value} (h : PM w pb p v) : w.rangeAt pb 9 (u8L p.s) := fun j x hx => by
  rw [cell_of_row _ _ _ _ _ _ h.row, List.getElem?_toArray]
  exact row_sum p v hx
theorem PM.dcell {w : World} {pb : Nat} {p : PV} {v : Value} (h : PM w pb p v) : w.cell? ⟨pb, 41, none⟩ = some v := by
  rw [cell_of_row _ _ _ _ _ _ h.row, List.getElem?_toArray]
  exact row_dat h.ok.n v
theorem PM.fz {w : World} {pb : Nat} {p : PV} {v : Value} (h : PM w pb p v) (i : Nat) : w.frozen? ⟨pb, i, none⟩ = false := frozen_of_row _ _ _ _ _ h.row
theorem PM.lt {w : World} {pb : Nat} {p : PV} {v : Value} (h : PM w pb p v) : pb < w.heap.size := (Array.getElem?_eq_some_iff.1 h.row).1
theorem PM.below {w x : World} {pb : Nat} {p : PV} {v : Value} (h : PM w pb p v) (hb : Below w.heap.size w x) : PM x pb p v :=
  ⟨(hb.block _ h.lt).trans h.row, h.ok, h.dat.below hb, h.ne⟩
/-- the number at a place -/
theorem PM.setN {w : World} {pb : Nat} {p : PV} {v : Value} (h : PM w pb p v) (i x : Nat) (hi : i < 5) (hx : x < 4294967296) : PM (w.setCell ⟨pb, i, none⟩ (.int .u32 (x : Int))) pb (p.set i x) v := by
  have hk := Go.heap_setCell_same w pb i _ 49 (.int .u32 (x : Int)) h.row
  have hd : BSl (w.setCell ⟨pb, i, none⟩ (.int .u32 (x : Int))) v p.dl := h.dat.stay fun g hg => Go.heap_setCell_other _ _ _ _ (by intro e; exact h.ne (by rw [hg]; exact congrArg some e))
  have hrow : ((p.row v).toArray.setIfInBounds i (.int .u32 (x : Int))) = ((p.set i x).row v).toArray := by
    rw [List.setIfInBounds_toArray]
    match i, hi with
    | 0, _ => rfl
    | 1, _ => rfl
    | 2, _ => rfl
    | 3, _ => rfl
    | 4, _ => rfl
  rw [hrow] at hk
  have hdl : (p.set i x).dl = p.dl := by
    match i with
    | 0 => rfl
    | 1 => rfl
    | 2 => rfl
    | 3 => rfl
    | 4 => rfl
    | n + 5 => rfl
  exact ⟨hk, h.ok.set i x hx, by rw [hdl]; exact hd, h.ne⟩
/-- four identifiers -/
theorem PM.setG {w : World} {pb : Nat} {p : PV} {v : Value} (h : PM w pb p v) (a b c d : Nat) (ha : a < 18446744073709551616) (hb : b < 18446744073709551616) (hc : c < 18446744073709551616) (hd : d < 18446744073709551616) : PM ((((w.setCell ⟨pb, 5, none⟩ (.int .u64 (a : Int))).setCell ⟨pb, 6, none⟩ (.int .u64 (b : Int))).setCell ⟨pb, 7, none⟩ (.int .u64 (c : Int))).setCell ⟨pb, 8, none⟩ (.int .u64 (d : Int))) pb { p with g0 := a, g1 := b, g2 := c, g3 := d } v := by
  have k1 := Go.heap_setCell_same w pb 5 _ 49 (.int .u64 (a : Int)) h.row
  have k2 := Go.heap_setCell_same _ pb 6 _ 49 (.int .u64 (b : Int)) k1
  have k3 := Go.heap_setCell_same _ pb 7 _ 49 (.int .u64 (c : Int)) k2
  have k4 := Go.heap_setCell_same _ pb 8 _ 49 (.int .u64 (d : Int)) k3
  have hbl : ∀ g, v.ownBlock = some g → ((((w.setCell ⟨pb, 5, none⟩ (.int .u64 (a : Int))).setCell ⟨pb, 6, none⟩ (.int .u64 (b : Int))).setCell ⟨pb, 7, none⟩ (.int .u64 (c : Int))).setCell ⟨pb, 8, none⟩ (.int .u64 (d : Int))).heap[g]? = w.heap[g]? := fun g hg => by
    have hne : g ≠ pb := fun e => h.ne (by rw [hg, e])
    rw [Go.heap_setCell_other _ _ _ _ (by exact hne), Go.heap_setCell_other _ _ _ _ (by exact hne), Go.heap_setCell_other _ _ _ _ (by exact hne), Go.heap_setCell_other _ _ _ _ (by exact hne)]
  have hrow : (((((p.row v).toArray.setIfInBounds 5 (.int .u64 (a : Int))).setIfInBounds 6 (.int .u64 (b : Int))).setIfInBounds 7 (.int .u64 (c : Int))).setIfInBounds 8 (.int .u64 (d : Int))) = (PV.row { p with g0 := a, g1 := b, g2 := c, g3 := d } v).toArray := by
    simp only [List.setIfInBounds_toArray]
    rfl
  rw [hrow] at k4
  obtain ⟨h1, h2, h3, h4, h5, h6, h7, h8, h9, h10, h11⟩ := h.ok
  exact ⟨k4, ⟨h1, h2, h3, h4, h5, ha, hb, hc, hd, h10, h11⟩, h.dat.stay hbl, h.ne⟩
/-- data -/
theorem PM.setD {w : World} {pb : Nat} {p : PV} {v : Value} (h : PM w pb p v) (v' : Value) (l : List Nat) (hd : BSl w v' l) (hne : v'.ownBlock ≠ some pb) : PM (w.setCell ⟨pb, 41, none⟩ v') pb { p with dl := l } v' := by
  have hk := Go.heap_setCell_same w pb 41 _ 49 v' h.row
  have hrow : ((p.row v).toArray.setIfInBounds 41 v') = (PV.row { p with dl := l } v').toArray := by
    rw [List.setIfInBounds_toArray, row_eq, row_eq, List.set_append_right _ _ (by simp [u8L_len, h.ok.n])]
    simp [u8L_len, h.ok.n]
  rw [hrow] at hk
  obtain ⟨h1, h2, h3, h4, h5, h6, h7, h8, h9, h10, h11⟩ := h.ok
  exact ⟨hk, ⟨h1, h2, h3, h4, h5, h6, h7, h8, h9, h10, h11⟩, hd.stay fun g hg => Go.heap_setCell_other _ _ _ _ (by intro e; exact hne (by rw [hg]; exact congrArg some e)), hne⟩

theorem infoP : (Tryd.prog.info? 49).map (·.size) = some 42 := by kernel_rfl
theorem infoS : (Tryd.prog.info? 28).map (·.size) = some 32 := by kernel_rfl
theorem infoG : (Tryd.prog.info? 27).map (·.size) = some 4 := by kernel_rfl
theorem infoK : (Tryd.prog.info? 30).map (·.size) = some 43 := by kernel_rfl
theorem built_parts' (p : PV) (h : p.s.length = 32) (da : Option Addr) (dn dc : Nat) : Tryd.prog.built 49 [(0, .agg #[.int .u32 (p.a : Int), .int .u32 (p.b : Int), .int .u32 (p.c : Int), .int .u32 (p.d : Int), .int .u32 (p.e : Int)]), (1, .agg #[.int .u64 (p.g0 : Int), .int .u64 (p.g1 : Int), .int .u64 (p.g2 : Int), .int .u64 (p.g3 : Int)]), (2, .agg (u8L p.s).toArray), (3, .slice da dn dc)] = some (p.row (.slice da dn dc)).toArray := by
  obtain ⟨a, b, c', d, e, g0, g1, g2, g3, s, dl⟩ := p
  obtain ⟨s0, s1, s2, s3, s4, s5, s6, s7, s8, s9, s10, s11, s12, s13, s14, s15, s16, s17, s18, s19, s20, s21, s22, s23, s24, s25, s26, s27, s28, s29, s30, s31, rfl⟩ := list32 h
  kernel_rfl
end Go.Proofs.YtcjilmafdpnfeaaDoor
