import Derived.Test.YtbkcenpohcjgnaaHexLaw
import Derived.Test.YtbkcenpohcjgnaaHexBackNum
import Derived.Deep.RegionWith
import Derived.BigRegion
namespace Go.Proofs.Ytbkcenpohcjgnaa
open Go.RowKit
open Num
set_option linter.unusedVariables false

/-- the row of a block -/
def rowOf (w : World) (g : Nat) : Array Value := match w.heap[g]? with | some (.cells cs _ _) => cs | _ => #[]
/-- a whole array of 32 bytes lies in block g -/
def Is32 (w : World) (g : Nat) : Prop := ∃ cs t fr, w.heap[g]? = some (.cells cs t fr) ∧ cs.size = 32
theorem is32_of {w : World} {g : Nat} {cs : Array Value} {t : TypeId} {fr : Nat × Nat} (h : w.heap[g]? = some (.cells cs t fr)) (hs : cs.size = 32) : Is32 w g ∧ rowOf w g = cs :=
  ⟨⟨cs, t, fr, h, hs⟩, by simp [rowOf, h]⟩
theorem run_load22 {w : World} {g : Nat} (h : Is32 w g) : Sem.run Try.prog (Instr.loadAt 22 (.pointer (some ⟨g, 0, none⟩))) w = .ok (.agg (rowOf w g)) w := by
  obtain ⟨cs, t, fr, hg, hs⟩ := h
  simp only [Instr.loadAt, Instr.sureAddr, Sem.run_bind, Sem.run_pure, Result.andThen_ok]
  rw [run_loadVar_row w g t 22 cs fr _ hg Try.underlying22 rfl (by rw [hs]; exact Try.size22)]
  simp [rowOf, hg]

/-- A world that has grown beyond W, all that W held as it was. -/
structure Ext (W : World) where
  w : World
  bel : Below W.heap.size W w

theorem wp_region_ext {P : Program} {id : Nat} {Q : Exit → Act → World → Prop} {a : Act} {W : World} {l : List Oper} (hm : P.follows .mixedOrders = true) (hB : Region.lexB .any l.toArray = true)
    (h : wpQuiet P l.toArray (fun w' => ∃ y : Ext W, w' = y.w) (fun a' => ∀ w', (∃ y : Ext W, w' = y.w) → Q .normal a' w') l a) : (Code.region id l.toArray true).wp P Q a W :=
  wp_region_quiet (C := fun w' => ∃ y : Ext W, w' = y.w) hm hB ⟨⟨W.drew, (Below.refl _ _).drew⟩, rfl⟩ (by simpa using h)

theorem Calls.ext_of {P : Program} {f : FuncId} {args : Array Value} {W : World} {y : Ext W} {v : Value}
    (h : Calls P f args y.w fun e w' => e = .returned v ∧ Below y.w.heap.size y.w w') : Calls P f args y.w fun e w'' => e = .returned v ∧ ∃ z : Ext W, w'' = z.w :=
  h.mono fun _ w' ⟨he, hb⟩ => ⟨he, ⟨w', y.bel.trans (hb.mono y.bel.size)⟩, rfl⟩
theorem Calls.ext_same {P : Program} {f : FuncId} {args : Array Value} {W : World} {y : Ext W} {v : Value}
    (h : Calls P f args y.w fun e w' => e = .returned v ∧ w' = y.w) : Calls P f args y.w fun e w'' => e = .returned v ∧ ∃ z : Ext W, w'' = z.w :=
  h.mono fun _ w' ⟨he, hb⟩ => ⟨he, y, hb⟩
theorem Ext.is32 {W : World} {g : Nat} {cs : Array Value} {t : TypeId} {fr : Nat × Nat} (h : W.heap[g]? = some (.cells cs t fr)) (hs : cs.size = 32) (y : Ext W) : Is32 y.w g ∧ rowOf y.w g = cs :=
  is32_of (heap_kept y.bel h) hs

theorem quiet_load22 {o : Oper} {a : Act} {K : Act → Prop} {W : World} (x : Operand) (g : Nat) (cs : Array Value) (t : TypeId) (fr : Nat × Nat) (ho : o.op = .load 22 x) (hx : a.eval x = .pointer (some ⟨g, 0, none⟩))
    (h : W.heap[g]? = some (.cells cs t fr)) (hs : cs.size = 32) (hk : K (a.put o.dst (.agg cs))) : o.quiet Try.prog a (fun w' => ∃ y : Ext W, w' = y.w) K := by
  refine ⟨.agg cs, ?_, hk⟩
  rintro _ ⟨y, rfl⟩
  have h1 := y.is32 h hs
  have h2 := run_load22 h1.1
  rw [h1.2] at h2
  unfold Oper.quietAt execOp
  simp only [ho, hx, Sem.run_bind, h2, Result.andThen_ok, Sem.run_pure]
  exact ⟨rfl, rfl⟩

theorem num_any (E : Int) (w : World) : Calls Try.prog 9 #[.int .i64 E] w fun e w' => e = .returned (.int .i64 E) ∧ w' = w := by
  go_enter Try.func9, Try.ntmps9
  go_wp2
  go_ret
  exact ⟨rfl, rfl⟩

theorem equal_zero (w : World) : Calls Try.prog 10 #[.agg zero32, .agg #[.int .u8 0, .int .u8 0, .int .u8 0, .int .u8 0, .int .u8 0, .int .u8 0, .int .u8 0, .int .u8 0, .int .u8 0, .int .u8 0, .int .u8 0, .int .u8 0, .int .u8 0, .int .u8 0, .int .u8 0, .int .u8 0, .int .u8 0, .int .u8 0, .int .u8 0, .int .u8 0, .int .u8 0, .int .u8 0, .int .u8 0, .int .u8 0, .int .u8 0, .int .u8 0, .int .u8 0, .int .u8 0, .int .u8 0, .int .u8 0, .int .u8 0, .int .u8 0]] w fun e w' => e = .returned (.bool true) ∧ Below w.heap.size w w' :=
  equal_same zero32 (arr_cell (l := List.replicate 32 0) (by simp)) w

set_option maxHeartbeats 4000000 in
theorem back_core (X C : Array Value) (s T U V V' : ByteArray) (E : Int) (w : World)
    (HX : Hid (X.size = 32)) (HC : Hid (C.size = 32)) (HO : Hid (X.all (·.oneCell') = true)) (HOC : Hid (C.all (·.oneCell') = true))
    (hcell : Hid (∀ i, i < 32 → ∃ n : Int, X[i]? = some (.int .u8 n)))
    (H6 : Hid (∀ wx, Calls Try.prog 6 #[.agg X] wx fun e w' => e = .returned (.string T) ∧ Below wx.heap.size wx w'))
    (H7T : Hid (∀ wx, Calls Try.prog 7 #[.string T] wx fun e w' => e = .returned (.tuple #[.agg X, .int .i64 0]) ∧ Below wx.heap.size wx w'))
    (H8 : Hid (∀ wx, Calls Try.prog 8 #[.string T] wx fun e w' => e = .returned (.string U) ∧ Below wx.heap.size wx w'))
    (H7U : Hid (∀ wx, Calls Try.prog 7 #[.string U] wx fun e w' => e = .returned (.tuple #[.agg X, .int .i64 0]) ∧ Below wx.heap.size wx w'))
    (H7s : Hid (∀ wx, Calls Try.prog 7 #[.string s] wx fun e w' => e = .returned (.tuple #[.agg C, .int .i64 E]) ∧ Below wx.heap.size wx w'))
    (H6C : Hid (∀ wx, Calls Try.prog 6 #[.agg C] wx fun e w' => e = .returned (.string V) ∧ Below wx.heap.size wx w'))
    (H11 : Hid (s.size = 64 → ∀ wx, Calls Try.prog 11 #[.string s] wx fun e w' => e = .returned (.string V') ∧ Below wx.heap.size wx w'))
    (hE : Hid (E = 0 ∧ s.size = 64 ∧ V' = V ∨ E = 11 ∧ C = zero32 ∧ (¬ s.size = 64 ∨ s.size = 64 ∧ ¬ V' = V))) :
    Calls Try.prog 3 #[.agg X, .string s] w fun e w' => e = .returned (.bool true) ∧ Below w.heap.size w w' := by
  have HIX : Hid ((Try.prog.info? 22).map (·.size) = some X.size) := by show _ = _; rw [HX.out]; exact Try.size22
  have HIC : Hid ((Try.prog.info? 22).map (·.size) = some C.size) := by show _ = _; rw [HC.out]; exact Try.size22
  have HZX : Hid (zero32.size = X.size) := by show _ = _; rw [HX.out]; rfl
  have HZC : Hid (zero32.size = C.size) := by show _ = _; rw [HC.out]; rfl
  have h0 : (w.alloc (.cells X 22)).heap[w.heap.size]? = some (.cells X 22 (0, 0)) := Go.heap_alloc_new w _
  have HB0 := hide (below_alloc w (.cells X 22))
  have h0' := hide h0
  clear h0
  go_enter Try.func3, Try.ntmps3
  go_wp2_with (refine wpList_load_row rfl 22 (.tmp 2) rfl w.heap.size rfl 22 X (0, 0) _ h0'.out Try.underlying22 rfl HIX.out ?_)
  refine (H6.out _).mono ?_
  rintro e w1 ⟨rfl, hb1⟩
  have H1 := hide (heap_kept hb1 h0'.out)
  have HB1 := hide (HB0.out.trans (hb1.mono (by simp)))
  clear hb1 h0' HB0
  go_wp2_with fail
  refine (H7T.out _).mono ?_
  rintro e w2 ⟨rfl, hb2⟩
  have hsz1 := HB1.out.size
  have H2 := hide (heap_kept hb2 H1.out)
  have HB2 := hide (HB1.out.trans (hb2.mono hsz1))
  clear hb2 H1 HB1 hsz1
  go_wp2_with (first
    | refine wpList_alloc_as rfl 22 rfl (.agg zero32) zero32 Try.zero22 rfl ?_
    | (refine wpList_store_row rfl 22 _ _ rfl w2.heap.size X rfl rfl 22 zero32 (Go.heap_alloc_new w2 _) HIX.out HZX.out HO.out ?_; rw [World.setRow_alloc_new]))
  refine (H8.out _).mono ?_
  rintro e w3 ⟨rfl, hb3⟩
  have hsz2 := HB2.out.size
  have H3 := hide (heap_kept hb3 (heap_more _ H2.out))
  have H3y := hide (heap_kept hb3 (Go.heap_alloc_new w2 _))
  have HB3 := hide ((HB2.out.alloc hsz2 _).trans (hb3.mono (by simp; omega)))
  clear hb3 H2 HB2 hsz2
  have hsz3 := HB3.out.size
  go_wp2_with fail
  refine (H7U.out _).mono ?_
  rintro e w4 ⟨rfl, hb4⟩
  have H4 := hide (heap_kept hb4 H3.out)
  have H4y := hide (heap_kept hb4 H3y.out)
  have HB4 := hide (HB3.out.trans (hb4.mono hsz3))
  clear hb4 H3 H3y HB3 hsz3
  have hsz4 := HB4.out.size
  go_wp2_with (first
    | refine wpList_alloc_as rfl 22 rfl (.agg zero32) zero32 Try.zero22 rfl ?_
    | (refine wpList_store_row rfl 22 _ _ rfl w4.heap.size X rfl rfl 22 zero32 (Go.heap_alloc_new w4 _) HIX.out HZX.out HO.out ?_; rw [World.setRow_alloc_new])
    | refine wpList_load_w rfl 22 (.tmp 6) rfl w2.heap.size rfl 22 X (0, 0) _ (heap_more _ H4y.out) Try.underlying22 rfl HIX.out ?_
    | refine wpList_load_w rfl 22 (.tmp 2) rfl w.heap.size rfl 22 X (0, 0) _ (heap_more _ H4.out) Try.underlying22 rfl HIX.out ?_
    | (go_at_call 9; refine (num_any _ _).mono ?_; rintro e w' ⟨rfl, rfl⟩))
  have HE1 := hide (fun wx => equal_same X hcell.out wx)
  refine (HE1.out _).mono ?_
  rintro e w5 ⟨rfl, hb5⟩
  have H5 := hide (heap_kept hb5 (heap_more _ H4.out))
  have H5y := hide (heap_kept hb5 (Go.heap_alloc_new w4 _))
  have HB5 := hide ((HB4.out.alloc hsz4 _).trans (hb5.mono (by simp; omega)))
  clear hb5 H4 H4y HB4 hsz4
  have hsz5 := HB5.out.size
  go_wp2_with (first
    | refine wpList_load_w rfl 22 (.tmp 8) rfl w4.heap.size rfl 22 X (0, 0) _ H5y.out Try.underlying22 rfl HIX.out ?_
    | refine wpList_load_w rfl 22 (.tmp 2) rfl w.heap.size rfl 22 X (0, 0) _ H5.out Try.underlying22 rfl HIX.out ?_)
  refine (HE1.out _).mono ?_
  rintro e w6 ⟨rfl, hb6⟩
  have HB6 := hide (HB5.out.trans (hb6.mono hsz5))
  clear hb6 H5 H5y HB5 hsz5
  have hsz6 := HB6.out.size
  go_wp2_with fail
  refine (H7s.out _).mono ?_
  rintro e w7 ⟨rfl, hb7⟩
  have HB7 := hide (HB6.out.trans (hb7.mono hsz6))
  clear hb7 HB6 hsz6 H7s H7T H7U H8 H6
  have hsz7 := HB7.out.size
  have H8C := hide (Go.heap_alloc_new w7 (.cells C 22))
  have HB8 := hide (HB7.out.alloc hsz7 (.cells C 22))
  clear HB7
  rcases hE.out with ⟨rfl, hs64, rfl⟩ | ⟨rfl, hC, hcase⟩
  · have HL := hide (H11.out hs64)
    clear hs64 hE H11
    go_wp2_with (first
      | refine wpList_alloc_as rfl 22 rfl (.agg zero32) zero32 Try.zero22 rfl ?_
      | (refine wpList_store_row rfl 22 _ _ rfl w7.heap.size C rfl rfl 22 zero32 (Go.heap_alloc_new w7 _) HIC.out HZC.out HOC.out ?_; rw [World.setRow_alloc_new])
      | (go_at_call 9; refine (num_any _ _).mono ?_; rintro e w' ⟨rfl, rfl⟩)
      | refine wpList_load_w rfl 22 (.tmp 10) rfl w7.heap.size rfl 22 C (0, 0) _ H8C.out Try.underlying22 rfl HIC.out ?_)
    refine (H6C.out _).mono ?_
    rintro e w8 ⟨rfl, hb8⟩
    have HB9 := hide (HB8.out.trans (hb8.mono (by simp; omega)))
    clear hb8 HB8 H8C
    have hsz9 := HB9.out.size
    go_wp2_with fail
    refine (HL.out _).mono ?_
    rintro e w9 ⟨rfl, hb9⟩
    have HB10 := hide (HB9.out.trans (hb9.mono hsz9))
    clear hb9 HB9
    go_wp2
    go_ret
    exact ⟨rfl, HB10.out⟩
  · have HEQ := hide equal_zero
    rw [← hC] at HEQ
    clear hE hC
    have hNe : Nonempty (Ext (w7.alloc (.cells C 22))) := ⟨⟨_, Below.refl _ _⟩⟩
    rcases hcase with hs64 | ⟨hs64, hne⟩
    · have hn64 : ((s.size : Int) != 64) = true := by rw [bne_iff_ne]; omega
      clear H11 H6C hs64
      go_wp2_with (first
        | refine wpList_alloc_as rfl 22 rfl (.agg zero32) zero32 Try.zero22 rfl ?_
        | (refine wpList_store_row rfl 22 _ _ rfl w7.heap.size C rfl rfl 22 zero32 (Go.heap_alloc_new w7 _) HIC.out HZC.out HOC.out ?_; rw [World.setRow_alloc_new])
        | (go_at_call 9; refine (num_any _ _).mono ?_; rintro e w' ⟨rfl, rfl⟩))
      refine wp_region_ext (by kernel_rfl) (by kernel_rfl) ?_
      repeat (first
        | go_big_quiet_step (first
          | (go_at_call 9; exact Calls.ext_same (num_any _ _))
          | (go_at_call 10; exact Calls.ext_of (HEQ.out _)))
        | (go_big_quiet_want; refine quiet_load22 (.tmp 10) w7.heap.size C 22 (0, 0) rfl rfl H8C.out HC.out ?_; go_simp; go_big_quiet_on))
      refine wpQuiet_nil ?_
      rintro _ ⟨y, rfl⟩
      have HY := hide y.bel
      generalize y.w = wy at *
      go_wp2
      go_ret
      exact ⟨rfl, HB8.out.trans (HY.out.mono (by simp; omega))⟩
    · have hn64 : ((s.size : Int) != 64) = false := by rw [bne_eq_false_iff_eq]; omega
      have HL := hide (H11.out hs64)
      have hvv : (V'.data.toList == V.data.toList) = false := by
        rw [beq_eq_false_iff_ne]; intro h; apply hne; apply ByteArray.ext; apply Array.toList_inj.1; exact h
      have hvv2 : (V'.toList == V.toList) = false := by rw [Go.ByteArray.toList_eq, Go.ByteArray.toList_eq]; exact hvv
      clear H11 hs64 hne
      go_wp2_with (first
        | refine wpList_alloc_as rfl 22 rfl (.agg zero32) zero32 Try.zero22 rfl ?_
        | (refine wpList_store_row rfl 22 _ _ rfl w7.heap.size C rfl rfl 22 zero32 (Go.heap_alloc_new w7 _) HIC.out HZC.out HOC.out ?_; rw [World.setRow_alloc_new])
        | (go_at_call 9; refine (num_any _ _).mono ?_; rintro e w' ⟨rfl, rfl⟩))
      refine wp_region_ext (by kernel_rfl) (by kernel_rfl) ?_
      repeat (first
        | go_big_quiet_step (first
          | (go_at_call 9; exact Calls.ext_same (num_any _ _))
          | (go_at_call 11; exact Calls.ext_of (HL.out _))
          | (go_at_call 6; exact Calls.ext_of (H6C.out _))
          | (go_at_call 10; exact Calls.ext_of (HEQ.out _)))
        | (go_big_quiet_want; refine quiet_load22 (.tmp 10) w7.heap.size C 22 (0, 0) rfl rfl H8C.out HC.out ?_; go_simp; go_big_quiet_on))
      refine wpQuiet_nil ?_
      rintro _ ⟨y, rfl⟩
      have HY := hide y.bel
      generalize y.w = wy at *
      go_wp2
      go_ret
      exact ⟨rfl, HB8.out.trans (HY.out.mono (by simp; omega))⟩

theorem bytes_inj {l m : List Nat} (hl : ∀ b ∈ l, b < 256) (hm : ∀ b ∈ m, b < 256) (h : (⟨(l.map UInt8.ofNat).toArray⟩ : ByteArray) = ⟨(m.map UInt8.ofNat).toArray⟩) : l = m := by
  have := congrArg strL h
  rwa [strL_of l hl, strL_of m hm] at this

theorem back_walk (l : List Nat) (hl : l.length = 32) (hb : ∀ b ∈ l, b < 256) (s : ByteArray) (hs : s.size ≤ maxLen) (w : World) :
    Calls Try.prog 3 #[.agg (arr l), .string s] w fun e w' => e = .returned (.bool true) ∧ Below w.heap.size w w' := by
  have hh := hexL_lt hb
  have hT : strL ⟨((hexL l).map UInt8.ofNat).toArray⟩ = hexL l := strL_of _ hh
  have hTs : (⟨((hexL l).map UInt8.ofNat).toArray⟩ : ByteArray).size = 64 := by rw [size_of, hexL_len, hl]
  have hU : strL ⟨(((hexL l).map upC).map UInt8.ofNat).toArray⟩ = (hexL l).map upC := strL_of _ (fun b hb' => by obtain ⟨c, hc, rfl⟩ := List.mem_map.1 hb'; exact upC_lt c (hh c hc))
  have hUs : (⟨(((hexL l).map upC).map UInt8.ofNat).toArray⟩ : ByteArray).size = 64 := by rw [size_of, List.length_map, hexL_len, hl]
  have b1 := back_of hl hb id (fun n h => hexV_hexC h)
  rw [List.map_id] at b1
  have b2 := back_of hl hb upC (fun n h => hexV_upC h)
  have hol := unhexOut_len (strL s)
  have holt := unhexOut_lt (strL s)
  have h7T := fun wx => unhex_any ⟨((hexL l).map UInt8.ofNat).toArray⟩ (by rw [hTs]; unfold maxLen; omega) wx
  rw [hT, b1.1, b1.2] at h7T
  have h7U := fun wx => unhex_any ⟨(((hexL l).map upC).map UInt8.ofNat).toArray⟩ (by rw [hUs]; unfold maxLen; omega) wx
  rw [hU, b2.1, b2.2] at h7U
  have h8 := fun wx => upper_any ⟨((hexL l).map UInt8.ofNat).toArray⟩ (by rw [hTs]; omega) wx
  rw [hT] at h8
  refine back_core (arr l) (arr (unhexOut (strL s))) s _ _ _ (⟨(((strL s).map loC).map UInt8.ofNat).toArray⟩) _ w (by show _ = _; rw [arr_size, hl]) (by show _ = _; rw [arr_size, hol]) (arr_one _) (arr_one _) (arr_cell hl)
    (fun wx => hex_any l hl hb wx) h7T h8 h7U (fun wx => unhex_any s hs wx) (fun wx => hex_any _ hol holt wx) (fun h64 wx => lower_any s (by omega) wx) ?_
  have hlo : ∀ b ∈ (strL s).map loC, b < 256 := fun b hb' => by obtain ⟨c, hc, rfl⟩ := List.mem_map.1 hb'; exact loC_lt c (strL_lt s c hc)
  rcases err_cases (strL s) with ⟨e0, e64, eok⟩ | ⟨e11, eout⟩
  · left
    refine ⟨e0, by rw [← strL_len]; exact e64, ?_⟩
    rw [(unhex_good e64 eok).1, read_is e64 eok]
  · right
    refine ⟨e11, by rw [eout]; rfl, ?_⟩
    by_cases h64 : s.size = 64
    · right
      refine ⟨h64, fun h => ?_⟩
      have := bytes_inj hlo (hexL_lt holt) h
      rw [eout] at this
      exact unread (by rw [strL_len]; exact h64) e11 this
    · left; exact h64
end Go.Proofs.Ytbkcenpohcjgnaa
