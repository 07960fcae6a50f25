import Derived.Test.YtcjilmafdpnfeaaDoorWTake
import Derived.Test.YtcjilmafdpnfeaaDoorWPut
namespace Go.Proofs.YtcjilmafdpnfeaaDoor
open Go.RowKit
set_option linter.unusedVariables false
set_option linter.unusedSimpArgs false
set_option maxRecDepth 20000

/-- a field of a packet -/
inductive Fd where
  | num (n : Nat)
  | ids
  | sum (tied : Bool)
  | dat (lo hi : Nat) (tied : Bool)
/-- as a value of the program -/
def Fd.val : Fd → Value
  | .num n => .iface 66 (.int .i64 (n : Int))
  | .ids => .iface 72 (.agg #[])
  | .sum t => .iface 70 (.agg #[.bool t])
  | .dat lo hi t => .iface 68 (.agg #[.int .u64 (lo : Int), .int .u64 (hi : Int), .bool t])
/-- one that may stand in the table -/
def Fd.Ok : Fd → Prop
  | .num n => n < 18
  | .ids => True
  | .sum _ => True
  | .dat lo hi _ => lo < 65536 ∧ hi < 65536
/-- the fields of a command -/
def fdL (c : Nat) : List Fd := ([[], [.num 0, .num 1, .num 4], [.dat 16 16 false], [.sum false], [.num 2, .num 3, .num 4], [.num 5, .num 6, .ids], [.num 7], [.num 8, .num 9, .dat 1 256 false], [.num 10, .num 11, .num 12, .dat 1 1024 false], [.num 10, .num 11, .num 12], [.num 10, .num 11], [.num 10, .num 11], [.num 10, .num 11, .num 14], [.num 12, .num 13], [.num 12, .num 13], [.num 10, .num 11, .num 16, .sum true], [.num 10, .num 11], [.num 10, .num 11, .dat 1 1024 false], [.num 10, .num 11], [.num 17], [.num 10, .num 11, .sum false], [.num 10, .num 11, .num 16], [.num 17], [.ids], [.num 10, .num 11], [.num 10, .num 11, .num 15, .dat 1 1024 true]] : List (List Fd)).getD c []
theorem fldL_fdL (c : Nat) (hc : c ≤ 25) : fldL c = (fdL c).map Fd.val := by
  rcases (show c = 0 ∨ c = 1 ∨ c = 2 ∨ c = 3 ∨ c = 4 ∨ c = 5 ∨ c = 6 ∨ c = 7 ∨ c = 8 ∨ c = 9 ∨ c = 10 ∨ c = 11 ∨ c = 12 ∨ c = 13 ∨ c = 14 ∨ c = 15 ∨ c = 16 ∨ c = 17 ∨ c = 18 ∨ c = 19 ∨ c = 20 ∨ c = 21 ∨ c = 22 ∨ c = 23 ∨ c = 24 ∨ c = 25 by omega) with rfl | rfl | rfl | rfl | rfl | rfl | rfl | rfl | rfl | rfl | rfl | rfl | rfl | rfl | rfl | rfl | rfl | rfl | rfl | rfl | rfl | rfl | rfl | rfl | rfl | rfl <;> rfl
theorem fdL_ok (c : Nat) : ∀ f ∈ fdL c, f.Ok := by
  by_cases hc : c ≤ 25
  · rcases (show c = 0 ∨ c = 1 ∨ c = 2 ∨ c = 3 ∨ c = 4 ∨ c = 5 ∨ c = 6 ∨ c = 7 ∨ c = 8 ∨ c = 9 ∨ c = 10 ∨ c = 11 ∨ c = 12 ∨ c = 13 ∨ c = 14 ∨ c = 15 ∨ c = 16 ∨ c = 17 ∨ c = 18 ∨ c = 19 ∨ c = 20 ∨ c = 21 ∨ c = 22 ∨ c = 23 ∨ c = 24 ∨ c = 25 by omega) with rfl | rfl | rfl | rfl | rfl | rfl | rfl | rfl | rfl | rfl | rfl | rfl | rfl | rfl | rfl | rfl | rfl | rfl | rfl | rfl | rfl | rfl | rfl | rfl | rfl | rfl <;> simp [fdL, Fd.Ok]
  · intro f hf
    have : fdL c = [] := by unfold fdL; rw [List.getD_eq_getElem?_getD, List.getElem?_eq_none (by simp; omega)]; rfl
    rw [this] at hf; cases hf
theorem fdL_len (c : Nat) : (fdL c).length ≤ 4 := by
  by_cases hc : c ≤ 25
  · rcases (show c = 0 ∨ c = 1 ∨ c = 2 ∨ c = 3 ∨ c = 4 ∨ c = 5 ∨ c = 6 ∨ c = 7 ∨ c = 8 ∨ c = 9 ∨ c = 10 ∨ c = 11 ∨ c = 12 ∨ c = 13 ∨ c = 14 ∨ c = 15 ∨ c = 16 ∨ c = 17 ∨ c = 18 ∨ c = 19 ∨ c = 20 ∨ c = 21 ∨ c = 22 ∨ c = 23 ∨ c = 24 ∨ c = 25 by omega) with rfl | rfl | rfl | rfl | rfl | rfl | rfl | rfl | rfl | rfl | rfl | rfl | rfl | rfl | rfl | rfl | rfl | rfl | rfl | rfl | rfl | rfl | rfl | rfl | rfl | rfl <;> simp [fdL]
  · have : fdL c = [] := by unfold fdL; rw [List.getD_eq_getElem?_getD, List.getElem?_eq_none (by simp; omega)]; rfl
    rw [this]; simp

/-- a packet's parts -/
structure PV where
  a : Nat
  b : Nat
  c : Nat
  d : Nat
  e : Nat
  g0 : Nat
  g1 : Nat
  g2 : Nat
  g3 : Nat
  s : List Nat
  dl : List Nat
def PV.get (p : PV) (i : Nat) : Nat := five p.a p.b p.c p.d p.e i
def PV.set (p : PV) (i x : Nat) : PV := match i with
  | 0 => { p with a := x }
  | 1 => { p with b := x }
  | 2 => { p with c := x }
  | 3 => { p with d := x }
  | 4 => { p with e := x }
  | _ => p
def PV.zero : PV := ⟨0, 0, 0, 0, 0, 0, 0, 0, 0, List.replicate 32 0, []⟩
/-- its numbers are within their kinds -/
structure PV.Ok (p : PV) : Prop where
  a : p.a < 4294967296
  b : p.b < 4294967296
  c : p.c < 4294967296
  d : p.d < 4294967296
  e : p.e < 4294967296
  g0 : p.g0 < 18446744073709551616
  g1 : p.g1 < 18446744073709551616
  g2 : p.g2 < 18446744073709551616
  g3 : p.g3 < 18446744073709551616
  n : p.s.length = 32
  s : ∀ x ∈ p.s, x < 256
theorem PV.Ok.get {p : PV} (h : p.Ok) (i : Nat) : p.get i < 4294967296 := by
  have h1 := h.a; have h2 := h.b; have h3 := h.c; have h4 := h.d; have h5 := h.e
  unfold PV.get five
  match i with
  | 0 => exact h1
  | 1 => exact h2
  | 2 => exact h3
  | 3 => exact h4
  | 4 => exact h5
  | n + 5 => simp [List.getD]
theorem PV.Ok.set {p : PV} (h : p.Ok) (i x : Nat) (hx : x < 4294967296) : (p.set i x).Ok := by
  obtain ⟨h1, h2, h3, h4, h5, h6, h7, h8, h9, h10, h11⟩ := h
  match i with
  | 0 => exact ⟨hx, h2, h3, h4, h5, h6, h7, h8, h9, h10, h11⟩
  | 1 => exact ⟨h1, hx, h3, h4, h5, h6, h7, h8, h9, h10, h11⟩
  | 2 => exact ⟨h1, h2, hx, h4, h5, h6, h7, h8, h9, h10, h11⟩
  | 3 => exact ⟨h1, h2, h3, hx, h5, h6, h7, h8, h9, h10, h11⟩
  | 4 => exact ⟨h1, h2, h3, h4, hx, h6, h7, h8, h9, h10, h11⟩
  | n + 5 => exact ⟨h1, h2, h3, h4, h5, h6, h7, h8, h9, h10, h11⟩
theorem PV.zero_ok : PV.zero.Ok := ⟨by decide, by decide, by decide, by decide, by decide, by decide, by decide, by decide, by decide, by decide, by decide⟩

/-- may what the packet has there stand there? -/
def fitF (p : PV) : Fd → Bool
  | .num n => meets (mayL n p.a p.b) (p.get (bnd n).1) (p.get (bnd n).1)
  | .ids => true
  | .sum t => p.s.all fun x => meets (smayL t p.e) x x
  | .dat lo hi t => meets (dmayL lo hi t p.e) p.dl.length p.dl.length
/-- without what it has there -/
def blankF (p : PV) : Fd → PV
  | .num n => p.set (bnd n).1 0
  | .ids => { p with g0 := 0, g1 := 0, g2 := 0, g3 := 0 }
  | .sum _ => { p with s := List.replicate 32 0 }
  | .dat _ _ _ => { p with dl := [] }
theorem blankF_ok {p : PV} (h : p.Ok) (f : Fd) : (blankF p f).Ok := by
  cases f with
  | num n => exact h.set _ _ (by decide)
  | ids => obtain ⟨h1, h2, h3, h4, h5, h6, h7, h8, h9, h10, h11⟩ := h; exact ⟨h1, h2, h3, h4, h5, (by decide : (0 : Nat) < 18446744073709551616), (by decide : (0 : Nat) < 18446744073709551616), (by decide : (0 : Nat) < 18446744073709551616), (by decide : (0 : Nat) < 18446744073709551616), h10, h11⟩
  | sum t => obtain ⟨h1, h2, h3, h4, h5, h6, h7, h8, h9, h10, h11⟩ := h; exact ⟨h1, h2, h3, h4, h5, h6, h7, h8, h9, (by decide : (List.replicate 32 0).length = 32), by intro x hx; have := List.eq_of_mem_replicate hx; omega⟩
  | dat _ _ _ => obtain ⟨h1, h2, h3, h4, h5, h6, h7, h8, h9, h10, h11⟩ := h; exact ⟨h1, h2, h3, h4, h5, h6, h7, h8, h9, h10, h11⟩
def PV.empty (p : PV) : Bool := (p.a == 0 && p.b == 0 && p.c == 0 && p.d == 0 && p.e == 0) && (p.g0 == 0 && p.g1 == 0 && p.g2 == 0 && p.g3 == 0) && p.s.all (· == 0) && p.dl.isEmpty
/-- does each field have what it may have, and nothing stand beside them? -/
def fitAll (p : PV) (fs : List Fd) : Bool := fs.all (fitF p) && (fs.foldl blankF p).empty
/-- the bytes of a field -/
def encF (p : PV) : Fd → List Nat
  | .num n => be (p.get (bnd n).1) 4
  | .ids => be p.g0 8 ++ be p.g1 8 ++ be p.g2 8 ++ be p.g3 8
  | .sum _ => p.s
  | .dat _ _ _ => be p.dl.length 2 ++ p.dl
def encAll (p : PV) (fs : List Fd) : List Nat := fs.flatMap (encF p)
/-- why a packet has no bytes -/
def perr (c : Int) (p : PV) : Nat := if c < 1 ∨ 25 < c then 74 else if fitAll p (fdL c.toNat) then 0 else 75
/-- a packet's bytes -/
def pbytes (c : Int) (p : PV) : List Nat := if perr c p = 0 then c.toNat :: encAll p (fdL c.toNat) else []

/-- the cells of a packet's parts -/
def PV.row (p : PV) (v : Value) : List Value := [.int .u32 (p.a : Int), .int .u32 (p.b : Int), .int .u32 (p.c : Int), .int .u32 (p.d : Int), .int .u32 (p.e : Int), .int .u64 (p.g0 : Int), .int .u64 (p.g1 : Int), .int .u64 (p.g2 : Int), .int .u64 (p.g3 : Int)] ++ p.s.map (fun (x : Nat) => Value.int .u8 (x : Int)) ++ [v]
/-- parts in memory -/
structure PM (w : World) (pb : Nat) (p : PV) (v : Value) : Prop where
  row : w.heap[pb]? = some (.cells (p.row v).toArray 49 (0, 0))
  ok : p.Ok
  dat : BSl w v p.dl
  ne : v.ownBlock ≠ some pb

end Go.Proofs.YtcjilmafdpnfeaaDoor
