import Derived.Test.YtlkccencilhacaaARp5
import Derived.Deep.MidRow
namespace Go.Proofs.Ytlkccencilhacaa
open Go.RowKit Go.Sort
open Num
set_option linter.unusedVariables false
set_option linter.unusedSimpArgs false
set_option maxRecDepth 20000

abbrev zplc : Array Value := #[.int .u32 0, .int .i64 0, .int .i64 0, .int .i64 0, .int .i64 0, .int .i64 0, .int .i64 0, .int .i64 0, .int .i64 0, .int .i64 0, .int .i64 0, .bool false]
def zRc : Rc := ⟨0, 0, 0, 0, 0, 0, 0, [0, 0, 0, 0]⟩
def plR (p : Option Rc) : Rc := p.getD zRc
/-- a place as values -/
def plV (p : Option Rc) : List Value := (recI (plR p)).toList ++ [.bool p.isSome]
theorem plV_len (p : Option Rc) : (plV p).length = 12 := by simp [plV, recI]
theorem placeSize : (Try.prog.info? 135).map (·.size) = some 12 := by kernel_rfl
/-- the places of a ring in memory -/
def HPl (w : World) (g : Nat) (P : List (Option Rc)) : Prop := w.heap[g]? = some (.cells (P.flatMap plV).toArray 135 (0, 0))
theorem HPl.below {w x : World} {g N : Nat} {P : List (Option Rc)} (h : HPl w g P) (hb : Below N w x) (hN : g < N) : HPl x g P := (hb.block g hN).trans h
theorem flatP_get : ∀ (P : List (Option Rc)) (i k : Nat) (p : Option Rc), P[i]? = some p → k < 12 → (P.flatMap plV)[i * 12 + k]? = (plV p)[k]?
  | [], i, k, p, h, _ => by simp at h
  | q :: P, 0, k, p, h, hk => by
    simp only [List.getElem?_cons_zero, Option.some.injEq] at h
    subst h
    rw [List.flatMap_cons, Nat.zero_mul, Nat.zero_add, List.getElem?_append_left (by rw [plV_len]; exact hk)]
  | q :: P, i + 1, k, p, h, hk => by
    rw [List.flatMap_cons, List.getElem?_append_right (by rw [plV_len]; omega), plV_len, show (i + 1) * 12 + k - 12 = i * 12 + k by omega]
    exact flatP_get P i k p (by simpa using h) hk
theorem HPl.range {w : World} {g : Nat} {P : List (Option Rc)} (h : HPl w g P) {i : Nat} {p : Option Rc} (hp : P[i]? = some p) : w.rangeAt g (i * 12) (plV p) := by
  intro j v hj
  have hjl : j < (plV p).length := (List.getElem?_eq_some_iff.1 hj).1
  rw [plV_len] at hjl
  rw [cell_of_row _ _ _ _ _ _ h]
  simp only [List.getElem?_toArray]
  rw [flatP_get P i j p hp hjl]
  exact hj
theorem plV_lit (p : Option Rc) : ∃ num age slots : Nat, ∃ c0 c1 c2 st z0 z1 z2 z3 : Int, ∃ f : Bool, plV p = [.int .u32 (num : Int), .int .i64 (age : Int), .int .i64 (slots : Int), .int .i64 c0, .int .i64 c1, .int .i64 c2, .int .i64 st, .int .i64 z0, .int .i64 z1, .int .i64 z2, .int .i64 z3, .bool f] ∧ (plR p).num = num ∧ p.isSome = f ∧ recI (plR p) = #[.int .u32 (num : Int), .int .i64 (age : Int), .int .i64 (slots : Int), .int .i64 c0, .int .i64 c1, .int .i64 c2, .int .i64 st, .int .i64 z0, .int .i64 z1, .int .i64 z2, .int .i64 z3] := ⟨_, _, _, _, _, _, _, _, _, _, _, _, rfl, rfl, rfl, rfl⟩
set_option maxHeartbeats 1000000 in
theorem hidx_any (w : World) (a : Option Addr) (n num : Nat) (h1 : 1 ≤ n) (h2 : n ≤ 4) (hn : num < 4294967296) :
    Calls Try.prog 67 #[.slice a n n, .int .u32 (num : Int)] w fun e w' => e = .returned (.int .i64 ((num % n : Nat) : Int)) ∧ w' = w := by
  rcases (show n = 1 ∨ n = 2 ∨ n = 3 ∨ n = 4 by omega) with rfl | rfl | rfl | rfl
  all_goals
    go_enter Try.func67, Try.ntmps67
    go_wp2_with fail
    go_ret
    refine ⟨?_, rfl⟩
    first | rfl | (simp; done) | (simp; omega)
theorem results_plc {P : Program} {fn : Func} {p : Tmp} {ty : TypeId} (h : fn.results = #[.cell p ty]) (tmps : Array Value) (w : World) (g : Nat) (t : TypeId) (cs : Array Value) (fr : Nat × Nat) (d : TypeDesc)
    (hp : tmps.getD p undef = .pointer (some ⟨g, 0, none⟩)) (hg : w.heap[g]? = some (.cells cs t fr))
    (hu : P.underlying ty = some d) (hd : (match d with | .struct _ | .array _ _ => true | _ => false) = true) (hi : (P.info? ty).map (·.size) = some cs.size) :
    (results fn tmps).run P w = .ok (.agg cs) w := results_row h tmps w g t cs fr d hp hg hu hd hi
set_option maxHeartbeats 2000000 in
theorem hat_any {w : World} {g : Nat} {P : List (Option Rc)} (h : HPl w g P) (h1 : 1 ≤ P.length) (h2 : P.length ≤ 4) (num : Nat) (hn : num < 4294967296) :
    Calls Try.prog 69 #[.slice (some ⟨g, 0, none⟩) P.length P.length, .int .u32 (num : Int)] w fun e w' => e = .returned (.agg (plV (pAt P num)).toArray) ∧ Below w.heap.size w w' := by
  have hi : num % P.length < P.length := Nat.mod_lt _ (by omega)
  have hp : P[num % P.length]? = some (pAt P num) := by
    unfold pAt
    rw [List.getD_eq_getElem?_getD, List.getElem?_eq_getElem hi]; rfl
  have hgl := (Array.getElem?_eq_some_iff.1 h).1
  have HR : Hid (w.rangeAt g (num % P.length * 12) (plV (pAt P num))) := hide (h.range hp)
  have HI := hide (hidx_any (w.alloc (.cells zplc 135)) (some ⟨g, 0, none⟩) P.length num h1 h2 hn)
  have HB : Hid (Below w.heap.size w (w.alloc (.cells zplc 135))) := hide ((Below.refl _ _).alloc (Nat.le_refl _) _)
  have HZ : Hid ((w.alloc (.cells zplc 135)).heap[w.heap.size]? = some (.cells zplc 135 (0, 0))) := hide (Go.heap_alloc_new _ _)
  obtain ⟨num', age, slots, c0, c1, c2, st, z0, z1, z2, z3, f, e1, -, -, -⟩ := plV_lit (pAt P num)
  rw [e1] at HR
  rw [e1]
  have HRa : Hid ((w.alloc (.cells zplc 135)).rangeAt g (num % P.length * 12) [.int .u32 (num' : Int), .int .i64 (age : Int), .int .i64 (slots : Int), .int .i64 c0, .int .i64 c1, .int .i64 c2, .int .i64 st, .int .i64 z0, .int .i64 z1, .int .i64 z2, .int .i64 z3, .bool f]) := hide fun j v hj => by
    rw [HB.out.cell hgl]; exact HR.out j v hj
  clear h hp hgl HR e1
  generalize num % P.length = ix at *
  generalize P.length = n at *
  have hix : (ix : Int) < (n : Int) := by omega
  clear hi
  go_enter Try.func69, Try.ntmps69
  go_wp2_with (first
    | (go_at_call 67; refine HI.out.mono ?_; rintro e y ⟨rfl, rfl⟩)
    | refine wpList_load_mid rfl 135 (.tmp 9) rfl g (ix * 12) rfl _ _ HRa.out Try.underlying135 rfl placeSize ?_
    | (refine wpList_store_row rfl 135 (.tmp 4) (.tmp 10) rfl w.heap.size #[.int .u32 (num' : Int), .int .i64 (age : Int), .int .i64 (slots : Int), .int .i64 c0, .int .i64 c1, .int .i64 c2, .int .i64 st, .int .i64 z0, .int .i64 z1, .int .i64 z2, .int .i64 z3, .bool f] rfl rfl 135 zplc HZ.out placeSize rfl (by first | kernel_rfl | simp [Value.oneCell']) ?_))
  have HF := hide (setRow_heap _ w.heap.size zplc #[.int .u32 (num' : Int), .int .i64 (age : Int), .int .i64 (slots : Int), .int .i64 c0, .int .i64 c1, .int .i64 c2, .int .i64 st, .int .i64 z0, .int .i64 z1, .int .i64 z2, .int .i64 z3, .bool f] 135 (0, 0) HZ.out)
  refine bodyPost_ret (results_plc (fn := Try.f69) (p := 4) (ty := 135) (by kernel_rfl) _ _ w.heap.size 135 _ (0, 0) _ rfl HF.out Try.underlying135 rfl placeSize) rfl ⟨rfl, HB.out.trans ⟨rfl, rfl, rfl, Nat.le_of_eq (setRow_size ..).symm, fun k hk => setRow_other _ _ _ _ (by omega)⟩⟩
end Go.Proofs.Ytlkccencilhacaa
