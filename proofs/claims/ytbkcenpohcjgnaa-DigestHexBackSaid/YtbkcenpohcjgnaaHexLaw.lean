import Derived.Test.YtbkcenpohcjgnaaRefHex
namespace Go.Proofs.Ytbkcenpohcjgnaa
open Go.RowKit
open Num
set_option linter.unusedVariables false

def arr (l : List Nat) : Array Value := (l.map byteV).toArray
theorem arr_size (l : List Nat) : (arr l).size = l.length := by simp [arr]
theorem arr_cell {l : List Nat} (h : l.length = 32) : ∀ i, i < 32 → ∃ n : Int, (arr l)[i]? = some (.int .u8 n) := by
  intro i hi; exact ⟨(l.getD i 0 : Nat), by rw [arr, List.getElem?_toArray, map_byteV_getD (by omega)]⟩
theorem arr_info {l : List Nat} (h : l.length = 32) : (Try.prog.info? 22).map (·.size) = some (arr l).size := by rw [arr_size, h]; exact Try.size22
theorem arr_one (l : List Nat) : (arr l).all (·.oneCell') = true := oneCell_map l

theorem heap_kept {w w' : World} {g : Nat} {o : Obj} (hb : Below w.heap.size w w') (h : w.heap[g]? = some o) : w'.heap[g]? = some o := by
  rw [hb.block g (Array.getElem?_eq_some_iff.1 h).1]; exact h
theorem heap_more {w : World} {g : Nat} {o : Obj} (o2 : Obj) (h : w.heap[g]? = some o) : (w.alloc o2).heap[g]? = some o := heap_kept (below_alloc w o2) h

set_option maxHeartbeats 1000000 in
theorem hexLaw_core (X Y : Array Value) (s H : ByteArray) (E : Int) (w : World)
    (HIL : Hid ((Try.prog.info? 22).map (·.size) = some X.size)) (HIO : Hid ((Try.prog.info? 22).map (·.size) = some Y.size)) (HZS : Hid (zero32.size = Y.size)) (HO : Hid (Y.all (·.oneCell') = true))
    (hcell : Hid (∀ i, i < 32 → ∃ n : Int, Y[i]? = some (.int .u8 n)))
    (H6 : Hid (∀ wx, Calls Try.prog 6 #[.agg X] wx fun e w' => e = .returned (.string H) ∧ Below wx.heap.size wx w'))
    (H13 : Hid (∀ wx, Calls Try.prog 13 #[.agg X] wx fun e w' => e = .returned (.string H) ∧ Below wx.heap.size wx w'))
    (H7 : Hid (∀ wx, Calls Try.prog 7 #[.string s] wx fun e w' => e = .returned (.tuple #[.agg Y, .int .i64 E]) ∧ Below wx.heap.size wx w'))
    (H12 : Hid (∀ wx, Calls Try.prog 12 #[.string s] wx fun e w' => e = .returned (.tuple #[.agg Y, .int .i64 E]) ∧ Below wx.heap.size wx w')) :
    Calls Try.prog 4 #[.agg X, .string s] w fun e w' => e = .returned (.bool true) ∧ Below w.heap.size w w' := by
  have h0 : (w.alloc (.cells X 22)).heap[w.heap.size]? = some (.cells X 22 (0, 0)) := Go.heap_alloc_new w _
  have HB0 := hide (below_alloc w (.cells X 22))
  have h0' := hide h0
  clear h0
  go_enter Try.func4, Try.ntmps4
  go_wp2_with (refine wpList_load_row rfl 22 (.tmp 2) rfl w.heap.size rfl 22 X (0, 0) _ h0'.out Try.underlying22 rfl HIL.out ?_)
  refine (H6.out _).mono ?_
  rintro e w1 ⟨rfl, hb1⟩
  have H1 := hide (heap_kept hb1 h0'.out)
  have HB1 := hide (HB0.out.trans (hb1.mono (by simp)))
  clear hb1 h0' HB0
  go_wp2_with fail
  refine (H7.out _).mono ?_
  rintro e w2 ⟨rfl, hb2⟩
  have hsz1 := HB1.out.size
  have H2 := hide (heap_kept hb2 H1.out)
  have HB2 := hide (HB1.out.trans (hb2.mono hsz1))
  clear hb2 H1 HB1 hsz1
  go_wp2_with (first
    | refine wpList_alloc_as rfl 22 rfl (.agg zero32) zero32 Try.zero22 rfl ?_
    | (refine wpList_store_row rfl 22 _ _ rfl w2.heap.size Y rfl rfl 22 zero32 (Go.heap_alloc_new w2 _) HIO.out HZS.out HO.out ?_; rw [World.setRow_alloc_new]))
  refine (H12.out _).mono ?_
  rintro e w3 ⟨rfl, hb3⟩
  have hsz2 := HB2.out.size
  have H3 := hide (heap_kept hb3 (heap_more _ H2.out))
  have H3y := hide (heap_kept hb3 (Go.heap_alloc_new w2 _))
  have HB3 := hide ((HB2.out.alloc hsz2 _).trans (hb3.mono (by simp; omega)))
  clear hb3 H2 HB2 hsz2
  have hsz3 := HB3.out.size
  go_wp2_with (first
    | refine wpList_alloc_as rfl 22 rfl (.agg zero32) zero32 Try.zero22 rfl ?_
    | (refine wpList_store_row rfl 22 _ _ rfl w3.heap.size Y rfl rfl 22 zero32 (Go.heap_alloc_new w3 _) HIO.out HZS.out HO.out ?_; rw [World.setRow_alloc_new])
    | refine wpList_load_row rfl 22 (.tmp 2) rfl w.heap.size rfl 22 X (0, 0) _ (heap_more _ H3.out) Try.underlying22 rfl HIL.out ?_)
  refine (H13.out _).mono ?_
  rintro e w4 ⟨rfl, hb4⟩
  have H4a := hide (heap_kept hb4 (heap_more _ H3y.out))
  have H4b := hide (heap_kept hb4 (Go.heap_alloc_new w3 _))
  have HB4 := hide ((HB3.out.alloc hsz3 _).trans (hb4.mono (by simp; omega)))
  clear hb4 H3 H3y HB3
  have hsz4 := HB4.out.size
  go_wp2_with (first
    | refine wpList_load_w rfl 22 (.tmp 6) rfl w2.heap.size rfl 22 Y (0, 0) _ H4a.out Try.underlying22 rfl HIO.out ?_
    | refine wpList_load_w rfl 22 (.tmp 8) rfl w3.heap.size rfl 22 Y (0, 0) _ H4b.out Try.underlying22 rfl HIO.out ?_)
  refine (equal_same Y hcell.out _).mono ?_
  rintro e w5 ⟨rfl, hb5⟩
  have HB5 := hide (HB4.out.trans (hb5.mono hsz4))
  clear hb5 H4a H4b HB4
  go_wp2
  go_ret
  exact ⟨rfl, HB5.out⟩

theorem hexLaw_walk (l : List Nat) (hl : l.length = 32) (hb : ∀ b ∈ l, b < 256) (s : ByteArray) (hs : s.size ≤ maxLen) (w : World) :
    Calls Try.prog 4 #[.agg (arr l), .string s] w fun e w' => e = .returned (.bool true) ∧ Below w.heap.size w w' := by
  have hol := unhexOut_len (strL s)
  exact hexLaw_core (arr l) (arr (unhexOut (strL s))) s _ _ w (arr_info hl) (arr_info hol) (by show _ = _; rw [arr_size, hol]; rfl) (arr_one _) (arr_cell hol)
    (fun wx => hex_any l hl hb wx) (fun wx => refHex_any l hl hb wx) (fun wx => unhex_any s hs wx) (fun wx => refUnhex_any s hs wx)
end Go.Proofs.Ytbkcenpohcjgnaa
