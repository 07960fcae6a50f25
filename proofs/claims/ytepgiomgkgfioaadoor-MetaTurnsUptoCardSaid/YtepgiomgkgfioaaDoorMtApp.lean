import Derived.Test.YtepgiomgkgfioaaDoorApp
import Derived.Test.YtepgiomgkgfioaaDoorMtSize
import Derived.Deep.DeepAppendRoom
import Derived.Lib.AppendZeros
import Derived.Lib.AppendStr
namespace Go.Proofs.YtepgiomgkgfioaaDoor
open Go.RowKit
open Num Go.Lib
set_option linter.unusedVariables false
set_option linter.unusedSimpArgs false

/-- the first k of a number's n bytes, the highest first -/
def bW (num n k : Nat) : List Nat := (List.range k).map fun i => num / 2 ^ (8 * (n - 1 - i)) % 256
theorem bW_zero (num n : Nat) : bW num n 0 = [] := rfl
theorem bW_succ (num n k : Nat) : bW num n (k + 1) = bW num n k ++ [num / 2 ^ (8 * (n - 1 - k)) % 256] := by simp [bW, List.range_succ]
theorem bW_len (num n k : Nat) : (bW num n k).length = k := by simp [bW]
theorem bW_lt (num n k : Nat) : ∀ b ∈ bW num n k, b < 256 := by
  intro b hb
  obtain ⟨i, _, rfl⟩ := List.mem_map.1 hb
  exact Nat.mod_lt _ (by decide)
/-- a slice of all of block g, of which l is laid -/
def gsl (g n cap : Nat) : Value := .slice (some ⟨g, 0, none⟩) n cap
structure Room (w : World) (base g cap : Nat) (l : List Nat) : Prop where
  own : Own w base (gsl g l.length cap) l
  le : base ≤ w.heap.size
theorem Room.alloc {w : World} {base g cap : Nat} {l : List Nat} (h : Room w base g cap l) (o : Obj) : Room (w.alloc o) base g cap l := ⟨h.own.grown rfl, by rw [World.size_alloc]; exact Nat.le_succ_of_le h.le⟩
theorem Room.row {w : World} {base g cap : Nat} {l : List Nat} (h : Room w base g cap l) : ∃ cur : Array Value, w.heap[g]? = some (.cells cur 5 (0, 0)) ∧ cur.size = cap ∧ cur.toList.take l.length = l.map byteV ∧ base ≤ g ∧ l.length ≤ cap ∧ cap ≤ maxLen := by
  rcases h.own.1.2 with ⟨h0, _⟩ | ⟨g', cap', cur, hv, hbg, hg, hnc, hcm, hcs, htake⟩
  · cases h0
  · cases hv
    exact ⟨cur, hg, by simpa using hcs, by simpa using htake, hbg, hnc, hcm⟩
theorem Room.mk' {w : World} {base g cap : Nat} {l : List Nat} {cur : Array Value} (hg : w.heap[g]? = some (.cells cur 5 (0, 0))) (hc : cur.size = cap) (ht : cur.toList.take l.length = l.map byteV) (hb : base ≤ g) (hl : l.length ≤ cap) (hm : cap ≤ maxLen) (h5 : ∀ b ∈ l, b < 256) (hw : base ≤ w.heap.size) : Room w base g cap l :=
  ⟨⟨⟨by simp, .inr ⟨g, cap, cur, rfl, hb, hg, hl, hm, by simpa using hc, by simpa using ht⟩⟩, h5⟩, hw⟩
/-- 'append(s, x...)' where there is room -/
theorem wpList_room {ops : Array Oper} {rest : List Oper} {o : Oper} {a : Act} {w : World} {Q : Exit → Act → World → Prop} (hgd : o.guard = none) (s x : Operand)
    (ho : o.op = .call { callee := .builtin .append, args := #[s, x], argTypes := #[29, 29] })
    (base g n m cap : Nat) (vx : Value) (l0 l : List Nat) (hs : a.eval s = gsl g n cap) (hx : a.eval x = vx) (hn : l0.length = n) (hml : l.length = m) (hown : Room w base g cap l0) (hb : BSl w vx l) (h0 : 0 < l.length) (hroom : n + m ≤ cap)
    (h : ∀ w', Room w' base g cap (l0 ++ l) → Below base w w' → wpList Tryd.prog ops Q rest (a.put o.dst (gsl g (n + m) cap)) w') : wpList Tryd.prog ops Q (o :: rest) a w := by
  subst hn
  subst hml
  obtain ⟨i0, hi, hz0, hz1, hz2⟩ := info_parts Tryd.info5
  have hb' := hb
  obtain ⟨ad, cp, rfl, hl, hm, hn, hbb, hcc⟩ := hb'
  obtain ⟨b, off, rfl, hcell⟩ := hcc h0
  refine wpList_append_own_spare _ hgd s x 29 ho base 5 i0 1 Tryd.underlying29 hi hz1 g l0.length cap _ hs hown.own.1 ⟨b, off, none⟩ l.length cp (l.map byteV) hx (by simp) hb.news (byteV_oneCell l) hroom ?_
  intro w1 hown' hg
  have hbw := (Below.refl base w).grown hg hown.le fun j hj => (hown.own.1.lt j (by simpa [gsl, Value.ownBlock] using hj)).1
  exact h w1 ⟨⟨by rw [List.length_append, List.map_append]; exact hown', fun y hy => (List.mem_append.1 hy).elim (hown.own.2 y) (hbb y)⟩, Nat.le_trans hown.le hbw.size⟩ hbw
theorem wpList_roomS {ops : Array Oper} {rest : List Oper} {o : Oper} {a : Act} {w : World} {Q : Exit → Act → World → Prop} (hgd : o.guard = none) (s x : Operand)
    (ho : o.op = .call { callee := .builtin .append, args := #[s, x], argTypes := #[29, 9] })
    (base g n m cap : Nat) (t : ByteArray) (l0 l : List Nat) (hs : a.eval s = gsl g n cap) (hx : a.eval x = .string t) (hn : l0.length = n) (hm : t.size = m) (hml : l.length = m) (ht : strCells t = l.map byteV) (hl : ∀ b ∈ l, b < 256) (hown : Room w base g cap l0) (hroom : n + m ≤ cap)
    (h : ∀ w', Room w' base g cap (l0 ++ l) → Below base w w' → wpList Tryd.prog ops Q rest (a.put o.dst (gsl g (n + m) cap)) w') : wpList Tryd.prog ops Q (o :: rest) a w := by
  subst hn
  subst hm
  obtain ⟨i0, hi, hz0, hz1, hz2⟩ := info_parts Tryd.info5
  obtain ⟨cur, hg, hc, htk, hbg, hle, hmx⟩ := hown.row
  have hr := Go.Lib.run_append_room_string (P := Tryd.prog) w 29 9 o.type 5 i0 Tryd.underlying29 Tryd.underlying9 hi hz1 g l0.length cap cur hg t hroom (by rw [hc]; exact hroom)
  refine Go.Lib.wpList_append_run w hgd s x 29 9 ho _ _ hs hx _ _ hr ?_
  refine h _ (Room.mk' (cur := (cur.toList.take l0.length ++ strCells t ++ cur.toList.drop (l0.length + t.size)).toArray) (setRow_heap _ _ cur _ _ _ hg) ?_ ?_ hbg ?_ hmx ?_ (by simpa using hown.le)) ⟨rfl, rfl, rfl, by simp, fun k hk => setRow_other _ _ _ _ (by omega)⟩
  · simp [ht]; omega
  · simp only [ht, htk, List.length_append, List.map_append]
    rw [List.take_append_of_le_length (by simp), List.take_of_length_le (by simp)]
  · simp; omega
  · exact fun y hy => (List.mem_append.1 hy).elim (hown.own.2 y) (hl y)
theorem zeroCells_u8 (k : Nat) : (Builtin.zeroCells (Value.int .u8 0).cells k).toList = (List.replicate k 0).map byteV := by
  apply List.ext_getElem?
  intro i
  by_cases h : i < k
  · simp [Builtin.zeroCells, byteV, Value.cells, h, Nat.mod_one]
  · simp [Builtin.zeroCells, byteV, Value.cells, h, Nat.mod_one]
theorem run_room0 {w : World} {g n cap k : Nat} {cur : Array Value} (ty : TypeId) (hg : w.heap[g]? = some (.cells cur 5 (0, 0))) (hc : cur.size = cap) (hroom : n + k ≤ cap) (hk : 0 < k) (hk2 : k ≤ 1024) :
    (Builtin.append_ #[29, 3] ty #[.slice (some ⟨g, 0, none⟩) n cap, .int .i64 (k : Int)]).run Tryd.prog w = .ok (.slice (some ⟨g, 0, none⟩) (n + k) cap) (w.setRow g (cur.toList.take n ++ (List.replicate k 0).map byteV ++ cur.toList.drop (n + k)).toArray) := by
  obtain ⟨i0, hi, hz0, hz1, hz2⟩ := info_parts Tryd.info5
  have hzc := zeroCells_u8 k
  have hst := run_storeCells_at (P := Tryd.prog) g n 5 ((List.replicate k 0).map byteV) 0 cur w hg (by simp; omega) (byteV_oneCell _)
  have hw : IntKind.i64.wrap (k : Int) = k := by rw [IntKind.wrap_i64]; omega
  have hneg : ¬ ((k : Int) < 0) := by omega
  have h48 : ¬ (281474976710656 < (k : Int) * 1) := by omega
  have h48' : ¬ (281474976710656 < (k : Int)) := by omega
  simp only [Nat.add_zero, List.length_map, List.length_replicate] at hst
  have hk0 : ¬ k = 0 := by omega
  generalize (List.replicate k 0).map byteV = Z at *
  simp [Builtin.append_, run_underlying Tryd.underlying29, run_underlying Tryd.underlying3, sizeOf, typeInfo, zeroValue, hi, hz0, hz1, hz2, asInt, asIntOf, hw, hneg, h48, h48', hk0, hroom, hzc, Addr.add_lit, hst]
theorem wpList_room0 {ops : Array Oper} {rest : List Oper} {o : Oper} {a : Act} {w : World} {Q : Exit → Act → World → Prop} (hgd : o.guard = none) (s x : Operand)
    (ho : o.op = .call { callee := .builtin .append, args := #[s, x], argTypes := #[29, 3] })
    (base g n m cap : Nat) (l0 : List Nat) (hs : a.eval s = gsl g n cap) (hx : a.eval x = .int .i64 (m : Int)) (hn : l0.length = n) (hown : Room w base g cap l0) (hroom : n + m ≤ cap) (hm0 : 0 < m) (hm : m ≤ 1024)
    (h : ∀ w', Room w' base g cap (l0 ++ List.replicate m 0) → Below base w w' → wpList Tryd.prog ops Q rest (a.put o.dst (gsl g (n + m) cap)) w') : wpList Tryd.prog ops Q (o :: rest) a w := by
  subst hn
  obtain ⟨cur, hg, hc, htk, hbg, hle, hmx⟩ := hown.row
  have hr := run_room0 (k := m) (n := l0.length) o.type hg hc hroom hm0 hm
  refine Go.Lib.wpList_append_run w hgd s x 29 3 ho _ _ hs hx _ _ hr ?_
  refine h _ (Room.mk' (cur := (cur.toList.take l0.length ++ (List.replicate m 0).map byteV ++ cur.toList.drop (l0.length + m)).toArray) (setRow_heap _ _ cur _ _ _ hg) ?_ ?_ hbg ?_ hmx ?_ (by simpa using hown.le)) ⟨rfl, rfl, rfl, by simp, fun k hk => setRow_other _ _ _ _ (by omega)⟩
  · simp; omega
  · simp only [htk, List.length_append, List.map_append, List.length_replicate]
    rw [List.take_append_of_le_length (by simp), List.take_of_length_le (by simp)]
  · simp; omega
  · exact fun y hy => (List.mem_append.1 hy).elim (hown.own.2 y) (fun h => by simp at h; omega)
def AppPost (w : World) (base g n cap : Nat) (l : List Nat) (e : Ending) (w' : World) : Prop := e = .returned (gsl g n cap) ∧ Room w' base g cap l ∧ Below base w w'

set_option maxRecDepth 100000 in
set_option maxHeartbeats 4000000 in
theorem app_8 (base g N cap : Nat) (L : List Nat) (w : World) (h : Room w base g cap L) (hN : L.length = N) (hr : N + 8 ≤ cap) (hc : cap ≤ 140737488355328) (B : Nat) (hB : B < 18446744073709551616) :
    Calls Tryd.prog 18 #[gsl g N cap, .int .i64 8, .int .u64 (B : Int)] w fun e w' => AppPost w base g (N + 8) cap (L ++ bW B 8 8) e w' := by
  have HLJ := hide hN
  have HLB := hide (fun k => bW_succ B 8 k)
  have HLN := hide (bW_len B 8)
  have HLB0 : Hid (bW B 8 0 = []) := hide rfl
  have HO := hide h
  have HBL := hide (Below.refl base w)
  generalize bW B 8 = LB at *
  clear h hN
  unfold gsl
  go_enter Tryd.func18, Tryd.ntmps18
  go_wp2_with fail
  go_loopw [0, 7] (fun v i wr => ∃ k : Nat, k ≤ 8 ∧ i = .int .i64 (56 - 8 * (k : Int)) ∧ v = .slice (some ⟨g, 0, none⟩) (N + k) cap ∧ Room wr base g cap (L ++ LB k) ∧ Below base w wr) (fun _ i _ => (intOf i + 8).toNat)
  case atStart => exact ⟨0, Nat.zero_le _, rfl, rfl, by rw [HLB0.out, List.append_nil]; exact HO.out, HBL.out⟩
  case round =>
    clear HO HBL
    obtain ⟨k, hk, rfl, rfl, hox, hbx⟩ := hrel
    have hlx : (L ++ LB k).length = N + k := by rw [List.length_append, HLJ.out, HLN.out]
    have HOx := hide hox
    have HBx := hide hbx
    have HLx := hide hlx
    have hszx := hox.le
    clear hox hbx hlx
    rcases (show k = 8 ∨ k = 0 ∨ k = 1 ∨ k = 2 ∨ k = 3 ∨ k = 4 ∨ k = 5 ∨ k = 6 ∨ k = 7 by omega) with rfl | rfl | rfl | rfl | rfl | rfl | rfl | rfl | rfl
    · go_wp2
      go_ret
      exact ⟨rfl, HOx.out, HBx.out⟩
    · rw [show (56 - 8 * ((0 : Nat) : Int)) = 56 from rfl]
      have HS := HLB.out 0
      obtain ⟨y, hy⟩ : ∃ y, B / 72057594037927936 % 256 = y := ⟨_, rfl⟩
      have HSy : Hid (LB 1 = LB 0 ++ [y]) := by show _ = _; rw [HS, ← hy]
      have hyi : (B : Int) / 72057594037927936 = (y : Int) := by omega
      have hyl : y < 256 := by omega
      have hone : BSl (wr.alloc (.cells #[.int .u8 (y : Int)] 5)) (.slice (some ⟨wr.heap.size, 0, none⟩) 1 1) [y] := BSl.one y hyl 5
      clear hy HS
      go_wp2_with (at_builtin; refine wpList_room rfl (.tmp 15) (.tmp 20) rfl base g (N + 0) 1 cap _ (L ++ LB 0) [y] rfl rfl HLx.out rfl (HOx.out.alloc _) hone (by simp) (by omega) ?_)
      intro w' hown' hb'
      rw [← HSy.out] at hown'
      have R := hide hown'
      have RB := hide ((HBx.out.alloc hszx (.cells #[.int .u8 (y : Int)] 5)).trans hb')
      clear hown' hb' hone
      unfold gsl
      go_wp2
      go_roundw
      case rel => exact ⟨1, by omega, by go_num, rfl, R.out, RB.out⟩
      case measure => simp [intOf]
    · rw [show (56 - 8 * ((1 : Nat) : Int)) = 48 from rfl]
      have HS := HLB.out 1
      obtain ⟨y, hy⟩ : ∃ y, B / 281474976710656 % 256 = y := ⟨_, rfl⟩
      have HSy : Hid (LB 2 = LB 1 ++ [y]) := by show _ = _; rw [HS, ← hy]
      have hyi : (B : Int) / 281474976710656 % 256 = (y : Int) := by omega
      have hyl : y < 256 := by omega
      have hone : BSl (wr.alloc (.cells #[.int .u8 (y : Int)] 5)) (.slice (some ⟨wr.heap.size, 0, none⟩) 1 1) [y] := BSl.one y hyl 5
      clear hy HS
      go_wp2_with (at_builtin; refine wpList_room rfl (.tmp 15) (.tmp 20) rfl base g (N + 1) 1 cap _ (L ++ LB 1) [y] rfl rfl HLx.out rfl (HOx.out.alloc _) hone (by simp) (by omega) ?_)
      intro w' hown' hb'
      rw [← HSy.out] at hown'
      have R := hide hown'
      have RB := hide ((HBx.out.alloc hszx (.cells #[.int .u8 (y : Int)] 5)).trans hb')
      clear hown' hb' hone
      unfold gsl
      go_wp2
      go_roundw
      case rel => exact ⟨2, by omega, by go_num, rfl, R.out, RB.out⟩
      case measure => simp [intOf]
    · rw [show (56 - 8 * ((2 : Nat) : Int)) = 40 from rfl]
      have HS := HLB.out 2
      obtain ⟨y, hy⟩ : ∃ y, B / 1099511627776 % 256 = y := ⟨_, rfl⟩
      have HSy : Hid (LB 3 = LB 2 ++ [y]) := by show _ = _; rw [HS, ← hy]
      have hyi : (B : Int) / 1099511627776 % 256 = (y : Int) := by omega
      have hyl : y < 256 := by omega
      have hone : BSl (wr.alloc (.cells #[.int .u8 (y : Int)] 5)) (.slice (some ⟨wr.heap.size, 0, none⟩) 1 1) [y] := BSl.one y hyl 5
      clear hy HS
      go_wp2_with (at_builtin; refine wpList_room rfl (.tmp 15) (.tmp 20) rfl base g (N + 2) 1 cap _ (L ++ LB 2) [y] rfl rfl HLx.out rfl (HOx.out.alloc _) hone (by simp) (by omega) ?_)
      intro w' hown' hb'
      rw [← HSy.out] at hown'
      have R := hide hown'
      have RB := hide ((HBx.out.alloc hszx (.cells #[.int .u8 (y : Int)] 5)).trans hb')
      clear hown' hb' hone
      unfold gsl
      go_wp2
      go_roundw
      case rel => exact ⟨3, by omega, by go_num, rfl, R.out, RB.out⟩
      case measure => simp [intOf]
    · rw [show (56 - 8 * ((3 : Nat) : Int)) = 32 from rfl]
      have HS := HLB.out 3
      obtain ⟨y, hy⟩ : ∃ y, B / 4294967296 % 256 = y := ⟨_, rfl⟩
      have HSy : Hid (LB 4 = LB 3 ++ [y]) := by show _ = _; rw [HS, ← hy]
      have hyi : (B : Int) / 4294967296 % 256 = (y : Int) := by omega
      have hyl : y < 256 := by omega
      have hone : BSl (wr.alloc (.cells #[.int .u8 (y : Int)] 5)) (.slice (some ⟨wr.heap.size, 0, none⟩) 1 1) [y] := BSl.one y hyl 5
      clear hy HS
      go_wp2_with (at_builtin; refine wpList_room rfl (.tmp 15) (.tmp 20) rfl base g (N + 3) 1 cap _ (L ++ LB 3) [y] rfl rfl HLx.out rfl (HOx.out.alloc _) hone (by simp) (by omega) ?_)
      intro w' hown' hb'
      rw [← HSy.out] at hown'
      have R := hide hown'
      have RB := hide ((HBx.out.alloc hszx (.cells #[.int .u8 (y : Int)] 5)).trans hb')
      clear hown' hb' hone
      unfold gsl
      go_wp2
      go_roundw
      case rel => exact ⟨4, by omega, by go_num, rfl, R.out, RB.out⟩
      case measure => simp [intOf]
    · rw [show (56 - 8 * ((4 : Nat) : Int)) = 24 from rfl]
      have HS := HLB.out 4
      obtain ⟨y, hy⟩ : ∃ y, B / 16777216 % 256 = y := ⟨_, rfl⟩
      have HSy : Hid (LB 5 = LB 4 ++ [y]) := by show _ = _; rw [HS, ← hy]
      have hyi : (B : Int) / 16777216 % 256 = (y : Int) := by omega
      have hyl : y < 256 := by omega
      have hone : BSl (wr.alloc (.cells #[.int .u8 (y : Int)] 5)) (.slice (some ⟨wr.heap.size, 0, none⟩) 1 1) [y] := BSl.one y hyl 5
      clear hy HS
      go_wp2_with (at_builtin; refine wpList_room rfl (.tmp 15) (.tmp 20) rfl base g (N + 4) 1 cap _ (L ++ LB 4) [y] rfl rfl HLx.out rfl (HOx.out.alloc _) hone (by simp) (by omega) ?_)
      intro w' hown' hb'
      rw [← HSy.out] at hown'
      have R := hide hown'
      have RB := hide ((HBx.out.alloc hszx (.cells #[.int .u8 (y : Int)] 5)).trans hb')
      clear hown' hb' hone
      unfold gsl
      go_wp2
      go_roundw
      case rel => exact ⟨5, by omega, by go_num, rfl, R.out, RB.out⟩
      case measure => simp [intOf]
    · rw [show (56 - 8 * ((5 : Nat) : Int)) = 16 from rfl]
      have HS := HLB.out 5
      obtain ⟨y, hy⟩ : ∃ y, B / 65536 % 256 = y := ⟨_, rfl⟩
      have HSy : Hid (LB 6 = LB 5 ++ [y]) := by show _ = _; rw [HS, ← hy]
      have hyi : (B : Int) / 65536 % 256 = (y : Int) := by omega
      have hyl : y < 256 := by omega
      have hone : BSl (wr.alloc (.cells #[.int .u8 (y : Int)] 5)) (.slice (some ⟨wr.heap.size, 0, none⟩) 1 1) [y] := BSl.one y hyl 5
      clear hy HS
      go_wp2_with (at_builtin; refine wpList_room rfl (.tmp 15) (.tmp 20) rfl base g (N + 5) 1 cap _ (L ++ LB 5) [y] rfl rfl HLx.out rfl (HOx.out.alloc _) hone (by simp) (by omega) ?_)
      intro w' hown' hb'
      rw [← HSy.out] at hown'
      have R := hide hown'
      have RB := hide ((HBx.out.alloc hszx (.cells #[.int .u8 (y : Int)] 5)).trans hb')
      clear hown' hb' hone
      unfold gsl
      go_wp2
      go_roundw
      case rel => exact ⟨6, by omega, by go_num, rfl, R.out, RB.out⟩
      case measure => simp [intOf]
    · rw [show (56 - 8 * ((6 : Nat) : Int)) = 8 from rfl]
      have HS := HLB.out 6
      obtain ⟨y, hy⟩ : ∃ y, B / 256 % 256 = y := ⟨_, rfl⟩
      have HSy : Hid (LB 7 = LB 6 ++ [y]) := by show _ = _; rw [HS, ← hy]
      have hyi : (B : Int) / 256 % 256 = (y : Int) := by omega
      have hyl : y < 256 := by omega
      have hone : BSl (wr.alloc (.cells #[.int .u8 (y : Int)] 5)) (.slice (some ⟨wr.heap.size, 0, none⟩) 1 1) [y] := BSl.one y hyl 5
      clear hy HS
      go_wp2_with (at_builtin; refine wpList_room rfl (.tmp 15) (.tmp 20) rfl base g (N + 6) 1 cap _ (L ++ LB 6) [y] rfl rfl HLx.out rfl (HOx.out.alloc _) hone (by simp) (by omega) ?_)
      intro w' hown' hb'
      rw [← HSy.out] at hown'
      have R := hide hown'
      have RB := hide ((HBx.out.alloc hszx (.cells #[.int .u8 (y : Int)] 5)).trans hb')
      clear hown' hb' hone
      unfold gsl
      go_wp2
      go_roundw
      case rel => exact ⟨7, by omega, by go_num, rfl, R.out, RB.out⟩
      case measure => simp [intOf]
    · rw [show (56 - 8 * ((7 : Nat) : Int)) = 0 from rfl]
      have HS := HLB.out 7
      obtain ⟨y, hy⟩ : ∃ y, B % 256 = y := ⟨_, rfl⟩
      have HSy : Hid (LB 8 = LB 7 ++ [y]) := by show _ = _; rw [HS, ← hy]; simp
      have hyi : (B : Int) % 256 = (y : Int) := by omega
      have hyl : y < 256 := by omega
      have hone : BSl (wr.alloc (.cells #[.int .u8 (y : Int)] 5)) (.slice (some ⟨wr.heap.size, 0, none⟩) 1 1) [y] := BSl.one y hyl 5
      clear hy HS
      go_wp2_with (at_builtin; refine wpList_room rfl (.tmp 15) (.tmp 20) rfl base g (N + 7) 1 cap _ (L ++ LB 7) [y] rfl rfl HLx.out rfl (HOx.out.alloc _) hone (by simp) (by omega) ?_)
      intro w' hown' hb'
      rw [← HSy.out] at hown'
      have R := hide hown'
      have RB := hide ((HBx.out.alloc hszx (.cells #[.int .u8 (y : Int)] 5)).trans hb')
      clear hown' hb' hone
      unfold gsl
      go_wp2
      go_roundw
      case rel => exact ⟨8, by omega, by go_num, rfl, R.out, RB.out⟩
      case measure => simp [intOf]

set_option maxRecDepth 100000 in
set_option maxHeartbeats 4000000 in
theorem app_4 (base g N cap : Nat) (L : List Nat) (w : World) (h : Room w base g cap L) (hN : L.length = N) (hr : N + 4 ≤ cap) (hc : cap ≤ 140737488355328) (B : Nat) (hB : B < 4294967296) :
    Calls Tryd.prog 18 #[gsl g N cap, .int .i64 4, .int .u64 (B : Int)] w fun e w' => AppPost w base g (N + 4) cap (L ++ bW B 4 4) e w' := by
  have HLJ := hide hN
  have HLB := hide (fun k => bW_succ B 4 k)
  have HLN := hide (bW_len B 4)
  have HLB0 : Hid (bW B 4 0 = []) := hide rfl
  have HO := hide h
  have HBL := hide (Below.refl base w)
  generalize bW B 4 = LB at *
  clear h hN
  unfold gsl
  go_enter Tryd.func18, Tryd.ntmps18
  go_wp2_with fail
  go_loopw [0, 7] (fun v i wr => ∃ k : Nat, k ≤ 4 ∧ i = .int .i64 (24 - 8 * (k : Int)) ∧ v = .slice (some ⟨g, 0, none⟩) (N + k) cap ∧ Room wr base g cap (L ++ LB k) ∧ Below base w wr) (fun _ i _ => (intOf i + 8).toNat)
  case atStart => exact ⟨0, Nat.zero_le _, rfl, rfl, by rw [HLB0.out, List.append_nil]; exact HO.out, HBL.out⟩
  case round =>
    clear HO HBL
    obtain ⟨k, hk, rfl, rfl, hox, hbx⟩ := hrel
    have hlx : (L ++ LB k).length = N + k := by rw [List.length_append, HLJ.out, HLN.out]
    have HOx := hide hox
    have HBx := hide hbx
    have HLx := hide hlx
    have hszx := hox.le
    clear hox hbx hlx
    rcases (show k = 4 ∨ k = 0 ∨ k = 1 ∨ k = 2 ∨ k = 3 by omega) with rfl | rfl | rfl | rfl | rfl
    · go_wp2
      go_ret
      exact ⟨rfl, HOx.out, HBx.out⟩
    · rw [show (24 - 8 * ((0 : Nat) : Int)) = 24 from rfl]
      have HS := HLB.out 0
      obtain ⟨y, hy⟩ : ∃ y, B / 16777216 % 256 = y := ⟨_, rfl⟩
      have HSy : Hid (LB 1 = LB 0 ++ [y]) := by show _ = _; rw [HS, ← hy]
      have hyi : (B : Int) / 16777216 = (y : Int) := by omega
      have hyl : y < 256 := by omega
      have hone : BSl (wr.alloc (.cells #[.int .u8 (y : Int)] 5)) (.slice (some ⟨wr.heap.size, 0, none⟩) 1 1) [y] := BSl.one y hyl 5
      clear hy HS
      go_wp2_with (at_builtin; refine wpList_room rfl (.tmp 15) (.tmp 20) rfl base g (N + 0) 1 cap _ (L ++ LB 0) [y] rfl rfl HLx.out rfl (HOx.out.alloc _) hone (by simp) (by omega) ?_)
      intro w' hown' hb'
      rw [← HSy.out] at hown'
      have R := hide hown'
      have RB := hide ((HBx.out.alloc hszx (.cells #[.int .u8 (y : Int)] 5)).trans hb')
      clear hown' hb' hone
      unfold gsl
      go_wp2
      go_roundw
      case rel => exact ⟨1, by omega, by go_num, rfl, R.out, RB.out⟩
      case measure => simp [intOf]
    · rw [show (24 - 8 * ((1 : Nat) : Int)) = 16 from rfl]
      have HS := HLB.out 1
      obtain ⟨y, hy⟩ : ∃ y, B / 65536 % 256 = y := ⟨_, rfl⟩
      have HSy : Hid (LB 2 = LB 1 ++ [y]) := by show _ = _; rw [HS, ← hy]
      have hyi : (B : Int) / 65536 % 256 = (y : Int) := by omega
      have hyl : y < 256 := by omega
      have hone : BSl (wr.alloc (.cells #[.int .u8 (y : Int)] 5)) (.slice (some ⟨wr.heap.size, 0, none⟩) 1 1) [y] := BSl.one y hyl 5
      clear hy HS
      go_wp2_with (at_builtin; refine wpList_room rfl (.tmp 15) (.tmp 20) rfl base g (N + 1) 1 cap _ (L ++ LB 1) [y] rfl rfl HLx.out rfl (HOx.out.alloc _) hone (by simp) (by omega) ?_)
      intro w' hown' hb'
      rw [← HSy.out] at hown'
      have R := hide hown'
      have RB := hide ((HBx.out.alloc hszx (.cells #[.int .u8 (y : Int)] 5)).trans hb')
      clear hown' hb' hone
      unfold gsl
      go_wp2
      go_roundw
      case rel => exact ⟨2, by omega, by go_num, rfl, R.out, RB.out⟩
      case measure => simp [intOf]
    · rw [show (24 - 8 * ((2 : Nat) : Int)) = 8 from rfl]
      have HS := HLB.out 2
      obtain ⟨y, hy⟩ : ∃ y, B / 256 % 256 = y := ⟨_, rfl⟩
      have HSy : Hid (LB 3 = LB 2 ++ [y]) := by show _ = _; rw [HS, ← hy]
      have hyi : (B : Int) / 256 % 256 = (y : Int) := by omega
      have hyl : y < 256 := by omega
      have hone : BSl (wr.alloc (.cells #[.int .u8 (y : Int)] 5)) (.slice (some ⟨wr.heap.size, 0, none⟩) 1 1) [y] := BSl.one y hyl 5
      clear hy HS
      go_wp2_with (at_builtin; refine wpList_room rfl (.tmp 15) (.tmp 20) rfl base g (N + 2) 1 cap _ (L ++ LB 2) [y] rfl rfl HLx.out rfl (HOx.out.alloc _) hone (by simp) (by omega) ?_)
      intro w' hown' hb'
      rw [← HSy.out] at hown'
      have R := hide hown'
      have RB := hide ((HBx.out.alloc hszx (.cells #[.int .u8 (y : Int)] 5)).trans hb')
      clear hown' hb' hone
      unfold gsl
      go_wp2
      go_roundw
      case rel => exact ⟨3, by omega, by go_num, rfl, R.out, RB.out⟩
      case measure => simp [intOf]
    · rw [show (24 - 8 * ((3 : Nat) : Int)) = 0 from rfl]
      have HS := HLB.out 3
      obtain ⟨y, hy⟩ : ∃ y, B % 256 = y := ⟨_, rfl⟩
      have HSy : Hid (LB 4 = LB 3 ++ [y]) := by show _ = _; rw [HS, ← hy]; simp
      have hyi : (B : Int) % 256 = (y : Int) := by omega
      have hyl : y < 256 := by omega
      have hone : BSl (wr.alloc (.cells #[.int .u8 (y : Int)] 5)) (.slice (some ⟨wr.heap.size, 0, none⟩) 1 1) [y] := BSl.one y hyl 5
      clear hy HS
      go_wp2_with (at_builtin; refine wpList_room rfl (.tmp 15) (.tmp 20) rfl base g (N + 3) 1 cap _ (L ++ LB 3) [y] rfl rfl HLx.out rfl (HOx.out.alloc _) hone (by simp) (by omega) ?_)
      intro w' hown' hb'
      rw [← HSy.out] at hown'
      have R := hide hown'
      have RB := hide ((HBx.out.alloc hszx (.cells #[.int .u8 (y : Int)] 5)).trans hb')
      clear hown' hb' hone
      unfold gsl
      go_wp2
      go_roundw
      case rel => exact ⟨4, by omega, by go_num, rfl, R.out, RB.out⟩
      case measure => simp [intOf]
end Go.Proofs.YtepgiomgkgfioaaDoor
