import Derived.Test.YtafjldmfghokaabAGb
import Derived.Test.YtafjldmfghokaabARCrc
import Derived.Lib.SmallJoins
namespace Go.Proofs.Ytafjldmfghokaab
open Go.RowKit Go.Sort
open Num
set_option linter.unusedVariables false
set_option linter.unusedSimpArgs false
set_option maxRecDepth 20000

/-- bytes that are being gathered since w: one's own, or a full list -/
structure GBy (w wr : World) (v : Value) (bs : List Nat) : Prop where
  st : wr.ownsRow 0 5 1 v bs.length (bs.map byV) ∨ ∃ g, v = .slice (some ⟨g, 0, none⟩) bs.length bs.length ∧ g < wr.heap.size ∧ ∀ j u, (bs.map byV)[j]? = some u → wr.cell? ⟨g, j, none⟩ = some u
  be : Below w.heap.size w wr
  nw : ∀ b, v.ownBlock = some b → w.heap.size ≤ b
  by' : ∀ b ∈ bs, b < 256
theorem GBy.later {w wr w2 : World} {v : Value} {bs : List Nat} (h : GBy w wr v bs) (hb : Below wr.heap.size wr w2) : GBy w w2 v bs := by
  refine ⟨?_, h.be.trans (hb.mono h.be.size), h.nw, h.by'⟩
  rcases h.st with q | ⟨g, q1, q2, q3⟩
  · exact .inl (rowKept q fun g e => hb.block g (q.lt g e).2)
  · exact .inr ⟨g, q1, Nat.lt_of_lt_of_le q2 hb.size, fun j u hu => by rw [← q3 j u hu]; exact World.cell?_of_block (hb.block g q2)⟩
theorem GBy.form {w wr : World} {v : Value} {bs : List Nat} (h : GBy w wr v bs) (hl : bs.length ≤ maxLen) : ∃ a cap, v = .slice a bs.length cap ∧ bs.length ≤ cap ∧ cap ≤ maxLen := by
  rcases h.st with q | ⟨g, q1, q2, q3⟩
  · exact rowForm q
  · exact ⟨_, _, q1, Nat.le_refl _, hl⟩
theorem GBy.sl {w wr : World} {v : Value} {bs : List Nat} (h : GBy w wr v bs) (hl : bs.length ≤ maxLen) : BSl wr v bs := by
  rcases h.st with q | ⟨g, rfl, q2, q3⟩
  · have q0 := q
    rcases q.2 with ⟨rfl, e⟩ | ⟨g, cap, cur, rfl, -, hg, h1, h2, -⟩
    · exact ⟨none, 0, by rw [e], by omega, by unfold maxLen; omega, fun _ => rfl, h.by', fun e2 => by omega⟩
    · refine ⟨_, cap, rfl, h1, h2, (fun e => by cases e), h.by', fun _ => ⟨g, 0, rfl, fun i hi => ?_⟩⟩
      have := q0.cellAt (g := g) i (by omega)
      rw [Nat.zero_add, this, List.getElem?_map, List.getElem?_eq_getElem hi]
      simp [byV, List.getD, hi]
  · refine ⟨_, bs.length, rfl, Nat.le_refl _, hl, (fun e => by cases e), h.by', fun _ => ⟨g, 0, rfl, fun i hi => ?_⟩⟩
    rw [Nat.zero_add]
    refine q3 i _ ?_
    rw [List.getElem?_map, List.getElem?_eq_getElem hi]
    simp [byV, List.getD, hi]
/-- a byte more -/
theorem run_appY {w x : World} {v : Value} {bs : List Nat} {z : Nat} (ty : TypeId) (h : GBy w x v bs) (hz : z < 256) (hl : bs.length ≤ 100000) :
    ∃ v' w', (Builtin.append_ #[39, 39] ty #[v, .slice (some ⟨x.heap.size, 0, none⟩) 1 1]).run Try.prog (x.alloc (.cells #[.int .u8 (z : Int)] 5)) = .ok v' w' ∧ GBy w w' v' (bs ++ [z]) ∧ ∃ a cap, v' = .slice a (bs.length + 1) cap := by
  obtain ⟨i0, hi, hz0, hz1, hz2⟩ := info_parts info_u8
  have hx := h.later ((Below.refl _ x).alloc (Nat.le_refl _) (.cells #[.int .u8 (z : Int)] 5))
  have hnew : ∀ j u, [Value.int .u8 (z : Int)][j]? = some u → (x.alloc (.cells #[.int .u8 (z : Int)] 5)).cell? ((⟨x.heap.size, 0, none⟩ : Addr).add j) = some u := cell_one_new _ _ _
  have hby : ∀ b ∈ bs ++ [z], b < 256 := fun b hb => by
    rcases List.mem_append.1 hb with e | e
    · exact h.by' b e
    · simp only [List.mem_singleton] at e; omega
  have hs := h.be.size
  have hb0 : Below w.heap.size w (x.alloc (.cells #[.int .u8 (z : Int)] 5)) := hx.be
  rcases hx.st with q | ⟨g, rfl, q2, q3⟩
  · obtain ⟨v', w', hr, ho, hu⟩ := run_append1 (P := Try.prog) _ 39 ty 5 i0 (.int .u8 0) 1 Try.underlying39 hi hz0 hz1 hz2 rfl v bs.length _ q ⟨x.heap.size, 0, none⟩ 1 (.int .u8 (z : Int)) hnew rfl (by unfold maxLen; omega) (by omega)
    have hU : Upon (x.alloc (.cells #[.int .u8 (z : Int)] 5)) w' v v' := hu
    refine ⟨v', w', hr, ⟨.inl (by simpa [byV] using ho), ?_, fun b e => ?_, hby⟩, ?_⟩
    · exact (hU.chg (U := fun _ => False) (Chg.ofBelow h.be) fun b e => .inr (h.nw b e)).below (Nat.le_refl _) fun b e => e.elim
    · rcases hU.loc b e with e | e
      · exact h.nw b e
      · rw [World.size_alloc] at e; omega
    · obtain ⟨a, cap, rfl, -, -⟩ := rowForm ho
      exact ⟨a, cap, rfl⟩
  · have hr := run_append_grow (P := Try.prog) (x.alloc (.cells #[.int .u8 (z : Int)] 5)) 39 ty 5 i0 (.int .u8 0) Try.underlying39 hi hz0 ⟨g, 0, none⟩ bs.length bs.length (bs.map byV) (by rw [hz1]; simp) (fun j u hu => by rw [Addr.add_lit, Nat.zero_add]; exact q3 j u hu) ⟨x.heap.size, 0, none⟩ 1 1 [.int .u8 (z : Int)] (by rw [hz1]; simp) hnew (by omega) (by omega) (by rw [hz2]; exact growslice_fits (by omega) (by omega))
    have hge := grownCap_ge (x.alloc (.cells #[.int .u8 (z : Int)] 5)) (bs.length + 1) bs.length 5
    have hcm := grownCap_le_maxLen (x.alloc (.cells #[.int .u8 (z : Int)] 5)) (bs.length + 1) bs.length 5 (by unfold maxLen; omega)
    refine ⟨_, _, hr, ⟨.inl ⟨by simp, .inr ⟨(x.alloc (.cells #[.int .u8 (z : Int)] 5)).heap.size, _, _, by rw [List.length_append]; rfl, Nat.zero_le _, Go.heap_alloc_new (x.alloc (.cells #[.int .u8 (z : Int)] 5)).drew _, by rw [List.length_append]; exact hge, hcm, ?_, ?_⟩⟩, ?_, fun b e => ?_, hby⟩, ⟨_, _, rfl⟩⟩
    · simp only [Array.size_append, List.size_toArray, size_zeroCells, List.length_map, show (Value.int IntKind.u8 0).cells.size = 1 from rfl]
      simp only [List.length_cons, List.length_nil]
      omega
    · simp only [Array.toList_append, List.append_assoc]
      rw [show bs.map byV ++ ([Value.int .u8 (z : Int)] ++ _) = (bs.map byV ++ [Value.int .u8 (z : Int)]) ++ _ from (List.append_assoc _ _ _).symm, show (bs ++ [z]).length * 1 = (bs.map byV ++ [Value.int .u8 (z : Int)]).length by simp]
      rw [List.take_left]
      simp [byV]
    · exact hb0.drew.alloc hb0.size _
    · simp [Value.ownBlock] at e
      rw [← e]
      omega
theorem wpList_appY {ops : Array Oper} {rest : List Oper} {o : Oper} {a : Act} {w x : World} {Q : Exit → Act → World → Prop} (hgd : o.guard = none) (s y : Operand)
    (ho : o.op = .call { callee := .builtin .append, args := #[s, y], argTypes := #[39, 39] }) {v : Value} {bs : List Nat} (z : Nat) (hs : a.eval s = v) (hy : a.eval y = .slice (some ⟨x.heap.size, 0, none⟩) 1 1) (hG : GBy w x v bs) (hz : z < 256) (hl : bs.length ≤ 100000)
    (h : ∀ v' w', GBy w w' v' (bs ++ [z]) → wpList Try.prog ops Q rest (a.put o.dst v') w') :
    wpList Try.prog ops Q (o :: rest) a (x.alloc (.cells #[.int .u8 (z : Int)] 5)) := by
  refine wpList_plain hgd fun K hK => ?_
  obtain ⟨v', w', hr, h2, h3⟩ := run_appY o.type hG hz hl
  unfold Oper.wp execOp
  simp only [ho, resolve, invoke, builtin, Sem.run_bind, Sem.run_pure, Result.andThen_ok, List.map_toArray, List.map_cons, List.map_nil, hs, hy, hr]
  exact hK _ _ (h v' w' h2)
theorem be_at (x : Nat) : ∀ k j, j < k → (be x k)[j]? = some (x / 256 ^ (k - 1 - j) % 256)
  | 0, j, h => by omega
  | k + 1, 0, _ => by simp [be]
  | k + 1, j + 1, h => by
    have := be_at x k j (by omega)
    simp only [be, List.getElem?_cons_succ]
    rw [this]
    rw [show k + 1 - 1 - (j + 1) = k - 1 - j by omega]
theorem be_take (x k j : Nat) (h : j < k) : (be x k).take (j + 1) = (be x k).take j ++ [x / 256 ^ (k - 1 - j) % 256] := by
  rw [List.take_add_one, be_at x k j h]; rfl
theorem shr_of {x n k : Nat} (h : k < n) : (x : Int) / (2 : Int) ^ ((8 * ((n : Int) - 1 - (k : Int))).toNat) = ((x / 256 ^ (n - 1 - k) : Nat) : Int) := by
  have : (8 * ((n : Int) - 1 - (k : Int))).toNat = 8 * (n - 1 - k) := by omega
  rw [this, Int.pow_mul]; rfl
set_option maxHeartbeats 1000000 in
theorem rput_any {w0 w : World} {v : Value} {bs : List Nat} (x n : Nat) (hx : x < 18446744073709551616) (hn : n ≤ 8) (hG : GBy w0 w v bs) (hl : bs.length ≤ 5000) :
    Calls Try.prog 128 #[v, .int .i64 (x : Int), .int .i64 (n : Int)] w fun e w' => ∃ v', e = .returned v' ∧ GBy w0 w' v' (bs ++ be x n) := by
  have HO := hide hG
  clear hG
  go_enter Try.func128, Try.ntmps128
  go_wp2_with fail
  go_loopw [0, 7] (fun u i wr => ∃ k : Nat, k ≤ n ∧ i = .int .i64 ((n : Int) - 1 - k) ∧ GBy w0 wr u (bs ++ (be x n).take k)) (fun _ i _ => (intOf i + 1).toNat)
  case atStart => exact ⟨0, Nat.zero_le _, by simp, by simpa using HO.out⟩
  case round =>
    clear HO
    obtain ⟨k, hk, rfl, hown⟩ := hrel
    by_cases hlt : k < n
    · have hs := shr_of (x := x) hlt
      have hlen : (bs ++ (be x n).take k).length ≤ 100000 := by simp [be_len]; omega
      have HT := hide (be_take x n k hlt)
      have HW := hide hown
      clear hown
      have HB := hide (Nat.mod_lt (x / 256 ^ (n - 1 - k)) (show 256 > 0 by decide))
      have HR : Hid (∀ v' w', GBy w0 w' v' (bs ++ ((be x n).take k ++ [x / 256 ^ (n - 1 - k) % 256])) → GBy w0 w' v' (bs ++ (be x n).take (k + 1))) := hide fun v' w' h => by rw [HT.out]; exact h
      generalize x / 256 ^ (n - 1 - k) = y at *
      go_wp2_with (at_builtin; refine wpList_appY rfl (.tmp 14) (.tmp 21) rfl (y % 256) rfl rfl HW.out HB.out hlen ?_)
      intro v' w1 h1
      have R := hide (HR.out _ _ h1)
      clear h1 HR HW HT
      go_wp2
      go_roundw
      case rel => exact ⟨k + 1, by omega, by go_num, R.out⟩
      case measure => simp [intOf]; omega
    · go_wp2
      go_ret
      obtain rfl : k = n := by omega
      exact ⟨_, rfl, by rwa [List.take_of_length_le (by rw [be_len]; exact Nat.le_refl _)] at hown⟩
theorem told_any (w : World) (x : Int) (h : x = -1 ∨ (0 ≤ x ∧ x < 4294967296)) : Calls Try.prog 129 #[.int .i64 x] w fun e w' => e = .returned (.int .i64 ((u32N x : Nat) : Int)) ∧ w' = w := by
  rcases h with rfl | ⟨h0, h1⟩
  · go_enter Try.func129, Try.ntmps129
    go_wp2_with fail
    go_ret
    exact ⟨rfl, rfl⟩
  · have e : ((u32N x : Nat) : Int) = x := by unfold u32N; omega
    rw [e]
    have b1 : (x < 0) = False := by simp; omega
    go_enter Try.func129, Try.ntmps129
    go_wp2_with fail
    go_ret
    exact ⟨rfl, rfl⟩
end Go.Proofs.Ytafjldmfghokaab
