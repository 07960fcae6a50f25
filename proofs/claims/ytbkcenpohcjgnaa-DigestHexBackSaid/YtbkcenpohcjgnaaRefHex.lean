import Derived.Test.YtbkcenpohcjgnaaUnhex
import Derived.Deep.RegionLaw
namespace Go.Proofs.Ytbkcenpohcjgnaa
open Go.RowKit
open Num
set_option linter.unusedVariables false

theorem hexI_ok {c : Nat} (h : hexOk c = true) : hexI c = (hexV c : Int) := by
  have h' : hexD c < 16 := by simpa [hexOk] using h
  simp [hexI, hexV, h']
theorem hexI_no {c : Nat} (h : hexOk c = false) : hexI c = -1 := by
  have h' : ¬ hexD c < 16 := by simpa [hexOk] using h
  simp [hexI, h']

theorem res_three (w : World) (A B C : Array Value) (hA : A.size = 32) : (loadVar 22 ⟨w.heap.size, 0, none⟩).run Try.prog (((w.alloc (.cells A 22)).alloc (.cells B 22)).alloc (.cells C 22)) = .ok (.agg A) (((w.alloc (.cells A 22)).alloc (.cells B 22)).alloc (.cells C 22)) :=
  run_loadVar_row _ _ 22 22 A (0, 0) _ (by rw [Below.heap_alloc _ _ _ (by simp <;> omega)]; exact heap2_fst w _ _) Try.underlying22 rfl (by rw [hA]; exact Try.size22)

theorem heap3_new (w : World) (A B C : Obj) : (((w.alloc A).alloc B).alloc C).heap[w.heap.size + 1 + 1]? = some C := by
  have h := Go.heap_alloc_new ((w.alloc A).alloc B) C
  have e : ((w.alloc A).alloc B).heap.size = w.heap.size + 1 + 1 := by simp
  rwa [e] at h
theorem heap3_fst (w : World) (A B C : Obj) : (((w.alloc A).alloc B).alloc C).heap[w.heap.size]? = some A := by
  rw [Below.heap_alloc _ _ _ (by simp <;> omega)]; exact heap2_fst w _ _

set_option maxHeartbeats 400000 in
theorem refUnhex_len (s : ByteArray) (hs : ¬ s.size = 64) (hm : s.size ≤ maxLen) (w : World) :
    Calls Try.prog 12 #[.string s] w fun e w' => e = .returned (.tuple #[.agg zero32, .int .i64 11]) ∧ Below w.heap.size w w' := by
  unfold maxLen at hm
  have hne : ((s.size : Int) != 64) = true := by rw [bne_iff_ne]; omega
  go_enter Try.func12, Try.ntmps12
  go_wp2_with (first
    | refine wpList_alloc_as rfl 22 rfl (.agg zero32) zero32 Try.zero22 rfl ?_
    | refine wpList_load_row rfl 22 _ rfl (w.heap.size + 1) rfl 22 zero32 (0, 0) _ (heap_alloc2_new w _ _) Try.underlying22 rfl Try.size22 ?_
    | (refine wpList_store_row rfl 22 _ _ rfl w.heap.size zero32 rfl rfl 22 zero32 (heap2_fst w _ _) Try.size22 rfl (oneCell_map _) ?_; rw [setRow_alloc_old _ _ _ _ (by simp), World.setRow_alloc_new]))
  refine bodyPost_ret (v := .tuple #[.agg zero32, .int .i64 11]) ?_ rfl ⟨rfl, below_alloc2 _ _ _⟩
  rw [results_cell_tmp rfl]
  simp [res_two w zero32 zero32 rfl, asAddr, Result.andThen]

set_option maxHeartbeats 1000000 in
theorem refUnhex_64 (s : ByteArray) (hs : s.size = 64) (w : World) :
    Calls Try.prog 12 #[.string s] w fun e w' => e = .returned (.tuple #[.agg ((unhexOut (strL s)).map byteV).toArray, .int .i64 (unhexErr (strL s))]) ∧ Below w.heap.size w w' := by
  have HS := hide hs
  have HL : Hid ((strL s).length = 64) := by show _ = _; rw [strL_len, hs]
  go_enter Try.func12, Try.ntmps12
  go_wp2_with (first
    | refine wpList_alloc_as rfl 22 rfl (.agg zero32) zero32 Try.zero22 rfl ?_)
  go_loopw [5] (fun i wr => ∃ k : Nat, k ≤ 32 ∧ i = .int .i64 k ∧ okTo (strL s) k = true ∧ ∃ ys : Array Value, ys.size = 32 ∧ ys.toList.take k = (outL (strL s) k).map byteV ∧ wr = ((w.alloc (.cells zero32 22)).alloc (.cells ys 22))) (fun i _ => 32 - (intOf i).toNat)
  case atStart => exact ⟨0, Nat.zero_le _, rfl, rfl, _, rfl, rfl, rfl⟩
  case round =>
    obtain ⟨k, hk, rfl, hok, ys, hy1, hy2, rfl⟩ := hrel
    have HOK := hide hok
    have HY1 := hide hy1
    have HY2 := hide hy2
    clear hok
    by_cases hlt : k < 32
    · obtain ⟨v0, hv0⟩ : ∃ v, ys[k]? = some v := ⟨ys[k]'(by omega), by simp⟩
      clear hy1 hy2
      have hb1 : 0 ≤ 2 * (k : Int) ∧ 2 * (k : Int) < 64 := by omega
      have hb2 : 0 ≤ 2 * (k : Int) + 1 ∧ 2 * (k : Int) + 1 < 64 := by omega
      have e1 := strL_at s (2 * k) (by omega)
      have e2 := strL_at s (2 * k + 1) (by omega)
      have l1 : (s[2 * k]'(by omega)).toNat < 256 := UInt8.toNat_lt _
      have l2 : (s[2 * k + 1]'(by omega)).toNat < 256 := UInt8.toNat_lt _
      have HN := hide (okTo_succ (strL s) k)
      have HO := hide (outL_succ (strL s) k)
      rw [e1, e2] at HN HO
      clear e1 e2
      generalize hc1 : (s[2 * k]'(by omega)).toNat = c1 at *
      generalize hc2 : (s[2 * k + 1]'(by omega)).toNat = c2 at *
      have bad : Hid (okTo (strL s) (k + 1) = false → (Ending.returned (.tuple #[.agg zero32, .int .i64 11]) = .returned (.tuple #[.agg ((unhexOut (strL s)).map byteV).toArray, .int .i64 (unhexErr (strL s))]))) := by
        intro h
        have := unhex_bad hlt h
        rw [this.1, this.2]; rfl
      by_cases ok1 : hexOk c1 = true
      · have hi1 := hexI_ok ok1
        by_cases ok2 : hexOk c2 = true
        · have hi2 := hexI_ok ok2
          have hv1 := hexV_lt c1
          have hv2 := hexV_lt c2
          have HR : Hid (okTo (strL s) (k + 1) = true) := by show _ = _; rw [HN.out, HOK.out, ok1, ok2]; rfl
          clear ok1 ok2
          go_wp2_with fail
          refine (digit_any c1 l1 _).mono ?_
          rintro e w' ⟨rfl, rfl⟩
          go_wp2_with fail
          refine (digit_any c2 l2 _).mono ?_
          rintro e w' ⟨rfl, rfl⟩
          go_wp2_with fail
          go_roundw
          case rel => exact ⟨k + 1, by omega, by go_num, HR.out, ys.setIfInBounds k (byteV (16 * hexV c1 + hexV c2)), by rw [Array.size_setIfInBounds]; exact HY1.out, by rw [take_succ_set (by rw [HY1.out]; omega) HY2.out, HO.out, List.map_append]; rfl, by rw [show byteV (16 * hexV c1 + hexV c2) = .int .u8 (16 * (hexV c1 : Int) + (hexV c2 : Int)) from by simp [byteV]]⟩
          case measure => simp [intOf]; omega
        · rw [Bool.not_eq_true] at ok2
          have hi2 := hexI_no ok2
          have hv1 := hexV_lt c1
          have HE := bad.out (by rw [HN.out, ok2]; simp)
          have HE' := hide HE
          clear HE ok1 ok2
          go_wp2_with fail
          refine (digit_any c1 l1 _).mono ?_
          rintro e w' ⟨rfl, rfl⟩
          go_wp2_with fail
          refine (digit_any c2 l2 _).mono ?_
          rintro e w' ⟨rfl, rfl⟩
          go_wp2_with (first
            | refine wpList_alloc_as rfl 22 rfl (.agg zero32) zero32 Try.zero22 rfl ?_
            | refine wpList_load_row rfl 22 (.tmp 8) rfl (w.heap.size + 1 + 1) (by first | rfl | simp [Act.eval, Act.put]) 22 zero32 (0, 0) _ (heap3_new w _ _ _) Try.underlying22 rfl Try.size22 ?_
            | (refine wpList_store_row rfl 22 _ _ rfl w.heap.size zero32 rfl rfl 22 zero32 (heap3_fst w _ _ _) Try.size22 rfl (oneCell_map _) ?_; rw [setRow_alloc_old _ _ _ _ (by simp <;> omega), setRow_alloc_old _ _ _ _ (by simp), World.setRow_alloc_new]))
          refine bodyPost_ret (v := .tuple #[.agg zero32, .int .i64 11]) ?_ rfl ⟨HE'.out, below_alloc3 _ _ _ _⟩
          rw [results_cell_tmp rfl]
          simp [res_three w zero32 ys zero32 rfl, asAddr, Result.andThen]
      · rw [Bool.not_eq_true] at ok1
        have hi1 := hexI_no ok1
        have HE := bad.out (by rw [HN.out, ok1]; simp)
        have HE' := hide HE
        clear HE ok1
        go_wp2_with fail
        refine (digit_any c1 l1 _).mono ?_
        rintro e w' ⟨rfl, rfl⟩
        go_wp2_with fail
        refine (digit_any c2 l2 _).mono ?_
        rintro e w' ⟨rfl, rfl⟩
        go_wp2_with (first
          | refine wpList_alloc_as rfl 22 rfl (.agg zero32) zero32 Try.zero22 rfl ?_
          | refine wpList_load_row rfl 22 (.tmp 8) rfl (w.heap.size + 1 + 1) (by first | rfl | simp [Act.eval, Act.put]) 22 zero32 (0, 0) _ (heap3_new w _ _ _) Try.underlying22 rfl Try.size22 ?_
          | (refine wpList_store_row rfl 22 _ _ rfl w.heap.size zero32 rfl rfl 22 zero32 (heap3_fst w _ _ _) Try.size22 rfl (oneCell_map _) ?_; rw [setRow_alloc_old _ _ _ _ (by simp <;> omega), setRow_alloc_old _ _ _ _ (by simp), World.setRow_alloc_new]))
        refine bodyPost_ret (v := .tuple #[.agg zero32, .int .i64 11]) ?_ rfl ⟨HE'.out, below_alloc3 _ _ _ _⟩
        rw [results_cell_tmp rfl]
        simp [res_three w zero32 ys zero32 rfl, asAddr, Result.andThen]
    · have hk32 : k = 32 := by omega
      subst hk32
      have hys : ys = ((outL (strL s) 32).map byteV).toArray := by
        rw [List.take_of_length_le (by simp [hy1])] at hy2
        rw [← hy2]
      have hg := unhex_good HL.out HOK.out
      have HE : Hid (Ending.returned (.tuple #[.agg ys, .int .i64 0]) = .returned (.tuple #[.agg ((unhexOut (strL s)).map byteV).toArray, .int .i64 (unhexErr (strL s))])) := by
        show _ = _; rw [hg.1, hg.2, hys]
      have hone : ys.all (·.oneCell') = true := by rw [hys]; exact oneCell_map _
      have hsz : (Try.prog.info? 22).map (·.size) = some ys.size := by rw [hy1]; exact Try.size22
      have hzs : zero32.size = ys.size := by rw [hy1]; rfl
      have hys' := hide hy1
      clear hy1 hy2 hys hg
      go_wp2_with (first
        | refine wpList_load_row rfl 22 _ rfl (w.heap.size + 1) rfl 22 ys (0, 0) _ (heap_alloc2_new w _ _) Try.underlying22 rfl hsz ?_
        | (refine wpList_store_row rfl 22 _ _ rfl w.heap.size ys rfl rfl 22 zero32 (heap2_fst w _ _) hsz hzs hone ?_; rw [setRow_alloc_old _ _ _ _ (by simp), World.setRow_alloc_new]))
      refine bodyPost_ret (v := .tuple #[.agg ys, .int .i64 0]) ?_ rfl ⟨HE.out, below_alloc2 _ _ _⟩
      rw [results_cell_tmp rfl]
      simp [res_two w ys ys hys'.out, asAddr, Result.andThen]

theorem refUnhex_any (s : ByteArray) (hm : s.size ≤ maxLen) (w : World) :
    Calls Try.prog 12 #[.string s] w fun e w' => e = .returned (.tuple #[.agg ((unhexOut (strL s)).map byteV).toArray, .int .i64 (unhexErr (strL s))]) ∧ Below w.heap.size w w' := by
  by_cases hs : s.size = 64
  · exact refUnhex_64 s hs w
  · have h := unhex_short (cs := strL s) (by rw [strL_len]; exact hs)
    refine (refUnhex_len s hs hm w).mono fun e w' ⟨he, hb⟩ => ⟨?_, hb⟩
    rw [he, h.1, h.2]; rfl

/-- append to what the call owns, as one step of a region that draws -/
theorem step_append_own {P : Program} {ops : Array Oper} {o : Oper} {a : Act} {w : World} {K : Act → World → Prop} {Q : Exit → Act → World → Prop} {E : Prop}
    (hgd : o.guard = none) (s x : Operand) (t : TypeId) (ho : o.op = .call { callee := .builtin .append, args := #[s, x], argTypes := #[t, t] })
    (base : Nat) (e : TypeId) (i : TypeInfo) (z : Value) (size bytes : Nat) (ht : P.underlying t = some (.slice e)) (hi : P.info? e = some i) (hz : i.zero = some z)
    (hsize : i.size = size) (hby : i.bytes = bytes) (hzs : z.cells.size = size) (hsz : 0 < size)
    (v : Value) (n : Nat) (xs : List Value) (hs : a.eval s = v) (hown : w.ownsRow base e size v n xs)
    (ad : Addr) (m c : Nat) (news : List Value) (hx : a.eval x = .slice (some ad) m c) (hl : news.length = m * size) (hnews : ∀ j u, news[j]? = some u → w.cell? (ad.add j) = some u) (h1 : ∀ u ∈ news, u.oneCell' = true)
    (h63 : n + m ≤ maxLen) (hbytes : (n + m) * bytes ≤ 140737488355328) (hbase : base ≤ w.heap.size)
    (h : ∀ v' w', w'.ownsRow base e size v' (n + m) (xs ++ news) → w.grownBy w' v.ownBlock → K (a.put o.dst v') w') :
    if Region.wanted o (yielded ops a.tmps) = true then Oper.wp P o a w K Q else E := by
  have hw : Region.wanted o (yielded ops a.tmps) = true := by simp [Region.wanted, hgd]
  rw [if_pos hw]
  exact wp_append_own w s x t ho base e i z size bytes ht hi hz hsize hby hzs hsz v n xs hs hown ad m c news hx hl hnews h1 h63 hbytes hbase fun v' w' h2 h3 _ => h v' w' h2 h3

theorem cell_two (w : World) (u v : Value) (t : TypeId) : ∀ j x, [u, v][j]? = some x → (w.alloc (.cells #[u, v] t)).cell? ((⟨w.heap.size, 0, none⟩ : Addr).add j) = some x := by
  intro j x h
  rw [Addr.add_lit, Nat.zero_add, cell_of_row _ _ j #[u, v] t (0, 0) (Go.heap_alloc_new w _)]
  rw [← h]; simp

theorem Own.two {w : World} {base : Nat} {v : Value} {l : List Nat} {x y : Nat} (hb : ∀ b ∈ l, b < 256) (hx : x < 256) (hy : y < 256)
    (h : w.ownsRow base 5 1 v (l.length + 2) (l.map byteV ++ [.int .u8 (x : Int), .int .u8 (y : Int)])) : Own w base v (l ++ [x, y]) := by
  refine ⟨?_, fun b hb' => ?_⟩
  · rw [List.length_append, List.map_append]; exact h
  · rcases List.mem_append.1 hb' with h1 | h1
    · exact hb b h1
    · simp only [List.mem_cons, List.not_mem_nil, or_false] at h1; omega

set_option maxHeartbeats 1000000 in
theorem refHex_any (l : List Nat) (hl : l.length = 32) (hb : ∀ b ∈ l, b < 256) (w : World) :
    Calls Try.prog 13 #[.agg (l.map byteV).toArray] w fun e w' => e = .returned (.string ⟨((hexL l).map UInt8.ofNat).toArray⟩) ∧ Below w.heap.size w w' := by
  obtain ⟨i0, hi, hz0, hz1, hz2⟩ := info_parts Try.info5
  have HX : ∀ i, i < 32 → (l.map byteV).toArray[i]? = some (.int .u8 (l.getD i 0 : Nat)) := by
    intro i hi; rw [List.getElem?_toArray, map_byteV_getD (by omega)]
  generalize (l.map byteV).toArray = xs at *
  have HX' := hide HX
  have HB := hide hb
  have HL := hide hl
  clear HX hb hl
  go_enter Try.func13, Try.ntmps13
  go_wp2
  go_loopw [3, 4] (fun v i wr => ∃ k : Nat, k ≤ 32 ∧ i = .int .i64 k ∧ Own wr (w.heap.size + 1) v (hexL (l.take k)) ∧ Below (w.heap.size + 1) (w.alloc (.cells xs 22)) wr) (fun _ i _ => 32 - (intOf i).toNat)
  case atStart => exact ⟨0, Nat.zero_le _, rfl, ⟨World.ownsRow_nil _ _ _ _, by simp [hexL]⟩, Below.refl _ _⟩
  case round =>
    obtain ⟨k, hk, rfl, hown, hbel⟩ := hrel
    have hlen : (hexL (l.take k)).length = 2 * k := by rw [hexL_len, List.length_take, HL.out]; omega
    have hsz : w.heap.size + 1 ≤ wr.heap.size := by have := hbel.size; simp at this; omega
    by_cases hlt : k < 32
    · have hx := HX'.out k hlt
      have hx2 := HB.out _ (mem_getD (show k < l.length by rw [HL.out]; omega))
      have HS := hide (hexL_snoc (show k < l.length by rw [HL.out]; omega))
      have hcell : wr.cell? ⟨w.heap.size, k, none⟩ = xs[k]? := by
        rw [hbel.cell (p := ⟨w.heap.size, k, none⟩) (by simp), cell_of_row _ _ k xs 22 (0, 0) (Go.heap_alloc_new w _)]
      rw [hx] at hcell
      generalize l.getD k 0 = x at *
      obtain ⟨q, eq, hq⟩ : ∃ q, x / 16 = q ∧ q < 16 := ⟨_, rfl, by omega⟩
      obtain ⟨r, er, hr⟩ : ∃ r, x % 16 = r ∧ r < 16 := ⟨_, rfl, by omega⟩
      rw [eq, er] at HS
      have hw1 : IntKind.u8.wrap ((x : Int) / 16) = (q : Int) := by rw [IntKind.wrap_u8']; omega
      have hw2 : IntKind.u8.wrap ((x : Int) % 16) = (r : Int) := by rw [IntKind.wrap_u8']; omega
      have hw3 : IntKind.u8.wrap ((x : Int).tmod 16) = (r : Int) := by rw [IntKind.wrap_u8', Int.tmod_eq_emod_of_nonneg (by omega)]; omega
      have hw4 : IntKind.u8.wrap ((x : Int).tdiv 16) = (q : Int) := by rw [IntKind.wrap_u8', Int.tdiv_eq_ediv_of_nonneg (by omega)]; omega
      have hw5 : (x : Int).tmod 16 = (r : Int) := by rw [Int.tmod_eq_emod_of_nonneg (by omega)]; omega
      have hq' : (q : Int) < 16 := by omega
      have hr' : (r : Int) < 16 := by omega
      have hd1 := hexDigit_at q hq
      have hd2 := hexDigit_at r hr
      clear eq er
      have how := hide hown
      have hbl := hide hbel
      have hxx := hide hx
      have hln := hide hlen
      clear hown hbel hx hlen
      go_wp2
      go_region_law (refine step_append_own rfl (.tmp 9) (.tmp 20) 32 rfl (w.heap.size + 1) 5 i0 (.int .u8 0) 1 1 Try.underlying32 hi hz0 hz1 hz2 rfl (by decide) _ _ _ rfl (by exact how.out.1.alloc _) ⟨wr.heap.size, 0, none⟩ 2 2 _ rfl rfl (cell_two _ _ _ _) (by simp [Value.oneCell']) (by rw [hln.out]; unfold maxLen; omega) (by rw [hln.out]; omega) (by simp; omega) ?_; intro v' w1 hown' hg')
      all_goals
        have hgg : (wr.alloc (.cells #[.int .u8 (hexC q : Int), .int .u8 (hexC r : Int)] 5)).drew.grownBy w1 u3.ownBlock := hg'
        have R : Own w1 (w.heap.size + 1) v' (hexL (l.take (k + 1))) := by
          rw [HS.out]; exact Own.two how.out.2 (hexC_lt hq) (hexC_lt hr) hown'
        have RB : Below (w.heap.size + 1) (w.alloc (.cells xs 22)) w1 := ((hbl.out.alloc (by omega) _).drew).grown hgg (by simp; omega) (fun j hj => (how.out.1.lt j hj).1)
        clear hown' hg' hgg how hbl hd1 hd2 hw1 hw2 hw3 hw4 hw5 hcell
        go_wp2
        go_roundw
        case rel => exact ⟨k + 1, by omega, by go_num, R, RB⟩
        case measure => simp [intOf]; omega
    · have hk32 : k = 32 := by omega
      subst hk32
      have hl2 : l.take 32 = l := List.take_of_length_le (by rw [HL.out]; omega)
      obtain ⟨g, cap, rfl, _⟩ := hown.shape (by omega)
      have hcv := conv_bytes hown.bsl
      rw [hl2] at hcv
      rw [show (hexL l).length = 64 from by rw [hexL_len, HL.out]] at hcv
      rw [show (hexL (l.take 32)).length = 64 from by rw [hlen]]
      have HB2 : Hid (Below w.heap.size w wr) := (below_alloc w _).trans (hbel.mono (by omega))
      clear hown hbel hlen hl2
      go_wp2
      go_ret
      exact ⟨rfl, HB2.out⟩
end Go.Proofs.Ytbkcenpohcjgnaa
