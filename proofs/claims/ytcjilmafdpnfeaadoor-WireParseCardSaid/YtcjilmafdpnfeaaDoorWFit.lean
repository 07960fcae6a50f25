import Derived.Test.YtcjilmafdpnfeaaDoorWFld
import Derived.Deep.WholeRow
namespace Go.Proofs.YtcjilmafdpnfeaaDoor
open Go.RowKit
set_option linter.unusedVariables false
set_option linter.unusedSimpArgs false
set_option maxRecDepth 20000

/-- while fields are blanked -/
structure FI (w x : World) (pb rb : Nat) (p q : PV) (v v' : Value) : Prop where
  pm : PM x pb p v
  pr : PM x rb q v'
  tab : BTab x
  bel : Below w.heap.size w x
  vv : v' = v ∨ v' = .slice none 0 0
theorem FI.below {w x y : World} {pb rb : Nat} {p q : PV} {v v' : Value} (h : FI w x pb rb p q v v') (hb : Below x.heap.size x y) : FI w y pb rb p q v v' :=
  ⟨h.pm.below hb, h.pr.below hb, h.tab.below hb, h.bel.trans (hb.mono h.bel.size), h.vv⟩
theorem FI.next {w x y : World} {pb rb : Nat} {p q q' : PV} {v v' v2 : Value} (h : FI w x pb rb p q v v') (hr : w.heap.size ≤ rb) (hp : pb ≠ rb) (hv : v.ownBlock ≠ some rb) (hg : 0 ≠ rb) (h2 : PM y rb q' v2) (ho : Oth rb x y) (hvv : v2 = v' ∨ v2 = .slice none 0 0) : FI w y pb rb p q' v v2 :=
  ⟨h.pm.oth ho hp hv, h2, h.tab.oth ho hg, ⟨ho.os.trans h.bel.os, ho.tape.trans h.bel.tape, ho.output.trans h.bel.output, Nat.le_trans h.bel.size ho.size, fun j hj => (ho.block j (Nat.lt_of_lt_of_le hj h.bel.size) (by omega)).trans (h.bel.block j hj)⟩, by rcases hvv with rfl | rfl; exact h.vv; exact .inr rfl⟩
def zParts : Array Value := #[.int .u32 0, .int .u32 0, .int .u32 0, .int .u32 0, .int .u32 0, .int .u64 0, .int .u64 0, .int .u64 0, .int .u64 0, .int .u8 0, .int .u8 0, .int .u8 0, .int .u8 0, .int .u8 0, .int .u8 0, .int .u8 0, .int .u8 0, .int .u8 0, .int .u8 0, .int .u8 0, .int .u8 0, .int .u8 0, .int .u8 0, .int .u8 0, .int .u8 0, .int .u8 0, .int .u8 0, .int .u8 0, .int .u8 0, .int .u8 0, .int .u8 0, .int .u8 0, .int .u8 0, .int .u8 0, .int .u8 0, .int .u8 0, .int .u8 0, .int .u8 0, .int .u8 0, .int .u8 0, .int .u8 0, .slice none 0 0]
def fitS (p : PV) (fs : List Fd) (k : Nat) : Prop := (fs.take k).all (fitF p) = true
theorem fitS_zero (p : PV) (fs : List Fd) : fitS p fs 0 := by simp [fitS]
theorem fitS_succ {p : PV} {fs : List Fd} {k : Nat} {f : Fd} (h : fitS p fs k) (hk : fs[k]? = some f) (hf : fitF p f = true) : fitS p fs (k + 1) := by
  unfold fitS at *
  rw [List.take_add_one, List.all_append, h, hk]
  simp [hf]
theorem fitAll_no {p : PV} {fs : List Fd} {k : Nat} {f : Fd} (hk : fs[k]? = some f) (hf : fitF p f = false) : fitAll p fs = false := by
  unfold fitAll
  have : fs.all (fitF p) = false := by
    rw [List.all_eq_false]
    exact ⟨f, List.mem_of_getElem? hk, by simp [hf]⟩
  rw [this]; rfl
theorem fitAll_end {p : PV} {fs : List Fd} (h : fitS p fs fs.length) : fitAll p fs = (fs.foldl blankF p).empty := by
  unfold fitAll
  unfold fitS at h
  rw [List.take_length] at h
  rw [h]; rfl
def blanked (p : PV) (fs : List Fd) (k : Nat) : PV := (fs.take k).foldl blankF p
theorem blanked_succ {p : PV} {fs : List Fd} {k : Nat} {f : Fd} (hk : fs[k]? = some f) : blanked p fs (k + 1) = blankF (blanked p fs k) f := by
  unfold blanked
  rw [List.take_add_one, hk]
  simp
theorem row_all (p : PV) (v : Value) (hv : v.oneCell' = true) : (p.row v).toArray.all (·.oneCell') = true := by
  rw [Array.all_eq_true_iff_forall_mem]
  intro x hx
  rw [List.mem_toArray, row_eq] at hx
  simp only [List.mem_append, List.mem_cons, List.not_mem_nil, or_false, u8L, List.mem_map] at hx
  rcases hx with (h | ⟨y, _, rfl⟩) | rfl
  · rcases h with rfl | rfl | rfl | rfl | rfl | rfl | rfl | rfl | rfl <;> rfl
  · rfl
  · exact hv

end Go.Proofs.YtcjilmafdpnfeaaDoor
