import Derived.Test.YtlkccencilhacaaARpM
import Derived.Laws.BytesString
import Derived.Laws.IdiomStrings
namespace Go.Proofs.Ytlkccencilhacaa
open Go.RowKit Go.Sort
open Num
set_option linter.unusedVariables false
set_option linter.unusedSimpArgs false
set_option maxRecDepth 20000

/-- bytes' readings stay where the blocks stay -/
theorem BSl.keep {w x : World} {v : Value} {l : List Nat} (h : BSl w v l) (hk : ∀ b, b < w.heap.size → x.heap[b]? = w.heap[b]?) : BSl x v l := by
  obtain ⟨a, cap, rfl, h1, h2, h3, h4, h5⟩ := h
  refine ⟨a, cap, rfl, h1, h2, h3, h4, fun hp => ?_⟩
  obtain ⟨b, off, rfl, hc⟩ := h5 hp
  refine ⟨b, off, rfl, fun i hi => ?_⟩
  have hci := hc i hi
  have hlt : b < w.heap.size := by
    by_cases e : b < w.heap.size
    · exact e
    · simp [World.cell?, Array.getElem?_eq_none (show w.heap.size ≤ b by omega)] at hci
  simp only [World.cell?, hk b hlt] at hci ⊢
  exact hci
theorem BSl.below {w x : World} {v : Value} {l : List Nat} (h : BSl w v l) (hb : Below w.heap.size w x) : BSl x v l := h.keep fun b hlt => hb.block b hlt
/-- a stretch of them -/
theorem BSl.seg {w : World} {g off n cap : Nat} {l : List Nat} (h : BSl w (.slice (some ⟨g, off, none⟩) n cap) l) (i k : Nat) (hik : i + k ≤ n) (hk : 1 ≤ k) : BSl w (.slice (some ⟨g, off + i, none⟩) k (cap - i)) ((l.drop i).take k) := by
  obtain ⟨a, cap', e, h1, h2, h3, h4, h5⟩ := h
  simp only [Value.slice.injEq] at e
  obtain ⟨rfl, rfl, rfl⟩ := e
  have hl : ((l.drop i).take k).length = k := by simp; omega
  refine ⟨_, cap - i, by rw [hl], by rw [hl]; omega, by omega, by simp, fun b hb => h4 b (List.mem_of_mem_drop (List.mem_of_mem_take hb)), fun _ => ⟨g, off + i, rfl, fun j hj => ?_⟩⟩
  rw [hl] at hj
  obtain ⟨b, o, e, hc⟩ := h5 (by omega)
  simp only [Option.some.injEq, Addr.mk.injEq] at e
  obtain ⟨rfl, rfl, -⟩ := e
  have := hc (i + j) (by omega)
  rw [← Nat.add_assoc] at this
  rw [this]
  congr 3
  simp [List.getD, hj, List.getElem?_take, List.getElem?_drop]
theorem BSl.form {w : World} {v : Value} {l : List Nat} (h : BSl w v l) (hl : 1 ≤ l.length) : ∃ g off cap, v = .slice (some ⟨g, off, none⟩) l.length cap ∧ l.length ≤ cap ∧ cap ≤ maxLen ∧ (∀ b ∈ l, b < 256) ∧ ∀ i, i < l.length → w.cell? ⟨g, off + i, none⟩ = some (.int .u8 (l.getD i 0 : Nat)) := by
  obtain ⟨a, cap, rfl, h1, h2, h3, h4, h5⟩ := h
  obtain ⟨b, off, rfl, hc⟩ := h5 (by omega)
  exact ⟨b, off, cap, rfl, h1, h2, h4, hc⟩
theorem shl_or {v x : Nat} (hv : v < 16777216) (hx : x < 256) : bits BinOp.or IntKind.u32 ((v : Int) * 256) (x : Int) = ((v * 256 + x : Nat) : Int) := by
  have h := u32_or_nat (v * 256) x (by omega) (by omega)
  have e : v * 256 ||| x = v * 256 + x := by
    rw [show v * 256 = 2 ^ 8 * v by omega, ← Nat.two_pow_add_eq_or_of_lt (show x < 2 ^ 8 by omega)]
  rw [e] at h
  have e2 : (((v * 256 : Nat)) : Int) = (v : Int) * 256 := by omega
  rw [e2] at h
  exact h
theorem bval_snoc (l : List Nat) (b : Nat) : bval (l ++ [b]) = bval l * 256 + b := by simp [bval]
theorem bval_pre {l : List Nat} {k : Nat} (hb : ∀ b ∈ l, b < 256) (hk : k < l.length) (hl : l.length ≤ 4) : bval (l.take k) < 16777216 := by
  have h := bval_lt (l.take k) (fun b h => hb b (List.mem_of_mem_take h)) 0
  have hk3 : (l.take k).length ≤ 3 := by simp; omega
  have h2 : 256 ^ (l.take k).length ≤ 256 ^ 3 := Nat.pow_le_pow_right (by decide) hk3
  unfold bval
  omega
theorem bval_u32 {l : List Nat} (hb : ∀ b ∈ l, b < 256) (hl : l.length ≤ 4) : bval l < 4294967296 := by
  have h := bval_lt l hb 0
  have h2 : 256 ^ l.length ≤ 256 ^ 4 := Nat.pow_le_pow_right (by decide) hl
  unfold bval
  omega
set_option maxHeartbeats 1000000 in
theorem takeB_any (v : Value) (l : List Nat) (w : World) (hv : BSl w v l) (hl : l.length ≤ 4) :
    Calls Try.prog 88 #[v] w fun e w' => e = .returned (.int .u32 (bval l : Nat)) ∧ w' = w := by
  obtain ⟨a, cap, rfl, hl1, hm, hn, hb, hcell⟩ := hv
  unfold maxLen at hm
  have HB := hide hb
  have HC := hide hcell
  clear hb hcell hn
  go_enter Try.func88, Try.ntmps88
  go_wp2_with fail
  go_loop [3, 8] (fun t i => ∃ k : Nat, k ≤ l.length ∧ i = .int .i64 k ∧ t = .int .u32 (bval (l.take k) : Nat)) (fun _ i => l.length - (intOf i).toNat)
  case atStart => exact ⟨0, Nat.zero_le _, rfl, rfl⟩
  case round =>
    obtain ⟨k, hk, rfl, rfl⟩ := hrel
    by_cases hlt : k < l.length
    · have hy : bval (l.take k) < 16777216 := bval_pre HB.out hlt hl
      have HS : Hid (bval (l.take (k + 1)) = bval (l.take k) * 256 + l.getD k 0) := by rw [take_snoc l 0 k hlt, bval_snoc]; exact hide rfl
      have hx : l.getD k 0 < 256 := HB.out _ (mem_getD hlt)
      obtain ⟨b, off, rfl, hcell⟩ := HC.out (by omega)
      have hck := hcell k hlt
      clear hcell HC
      generalize bval (l.take k) = y at *
      generalize l.getD k 0 = x at *
      have hso := shl_or hy hx
      go_wp2
      go_round
      case rel => exact ⟨k + 1, by omega, by go_num, by rw [HS.out]; first | rfl | (congr 1; omega)⟩
      case measure => simp [intOf]; omega
    · have HE : Hid (bval (l.take k) = bval l) := by rw [List.take_of_length_le (by omega)]; exact hide rfl
      generalize bval (l.take k) = y at *
      go_wp2
      go_ret
      exact ⟨by rw [← HE.out]; rfl, rfl⟩
theorem sg_wrap (n : Nat) (h : n < 4294967296) : IntKind.i32.wrap (n : Int) = sgI n := by
  unfold sgI
  simp [IntKind.wrap, IntKind.bits, IntKind.signed]
  split <;> omega
theorem sgI_rng (n : Nat) (h : n < 4294967296) : -2147483648 ≤ sgI n ∧ sgI n < 2147483648 := by unfold sgI; split <;> omega
set_option maxHeartbeats 1000000 in
theorem signed_any (v : Value) (l : List Nat) (w : World) (hv : BSl w v l) (hl : l.length ≤ 4) :
    Calls Try.prog 89 #[v] w fun e w' => e = .returned (.int .i64 (sgI (bval l))) ∧ w' = w := by
  have HT := hide (takeB_any v l w hv hl)
  have hb : bval l < 4294967296 := by
    obtain ⟨a, cap, rfl, hl1, hm, hn, hb, hcell⟩ := hv
    exact bval_u32 hb hl
  have hw := sg_wrap (bval l) hb
  have hr := sgI_rng (bval l) hb
  have hw2 : IntKind.i64.wrap (sgI (bval l)) = sgI (bval l) := by simp [IntKind.wrap, IntKind.bits, IntKind.signed]; omega
  clear hv
  generalize bval l = y at *
  generalize sgI y = z at *
  go_enter Try.func89, Try.ntmps89
  go_wp2_with (go_at_call 88; refine HT.out.mono ?_; rintro e w' ⟨rfl, rfl⟩)
  go_ret
  exact ⟨rfl, rfl⟩
/-- 'string(b)' -/
theorem convS {W : World} {v : Value} {l : List Nat} (h : BSl W v l) (hl : 1 ≤ l.length) :
    (convert 23 9 v).run Try.prog W = .ok (.string ⟨(l.map UInt8.ofNat).toArray⟩) W := by
  obtain ⟨g, off, cap, rfl, h1, h2, h3, h4⟩ := h.form hl
  have := run_convert_bytes_back (P := Try.prog) W 23 9 5 ⟨g, off, none⟩ cap (l.map UInt8.ofNat) Try.underlying23 Try.underlying5 Try.underlying9 (fun j hj => by
    have hj' : j < l.length := by simpa using hj
    rw [Addr.add_lit, h4 j hj']
    have hlt := h3 _ (List.getElem_mem hj')
    simp [List.getD, hj', Nat.mod_eq_of_lt hlt])
  rw [List.length_map] at this
  exact this
theorem map_u8_inj {a b : List Nat} (ha : ∀ x ∈ a, x < 256) (hb : ∀ x ∈ b, x < 256) (h : a.map UInt8.ofNat = b.map UInt8.ofNat) : a = b := by
  have e : ∀ l : List Nat, (∀ x ∈ l, x < 256) → (l.map UInt8.ofNat).map UInt8.toNat = l := fun l hl => by
    rw [List.map_map]
    refine (List.map_congr_left fun x hx => ?_).trans (List.map_id l)
    simp [Nat.mod_eq_of_lt (hl x hx)]
  rw [← e a ha, ← e b hb, h]
theorem toList_loop (bs : ByteArray) : ∀ n i r, bs.size - i = n → ByteArray.toList.loop bs i r = r.reverse ++ bs.data.toList.drop i := by
  intro n
  induction n with
  | zero =>
    intro i r h
    have h' : bs.data.size ≤ i := by have : bs.size = bs.data.size := rfl; omega
    rw [ByteArray.toList.loop, if_neg (by omega), List.drop_eq_nil_of_le (by simpa using h'), List.append_nil]
  | succ n ih =>
    intro i r h
    have hs : bs.size = bs.data.size := rfl
    have hi : i < bs.data.size := by omega
    rw [ByteArray.toList.loop, if_pos (by omega), ih (i + 1) _ (by omega)]
    have : bs.data.toList.drop i = bs.data.toList[i]'(by simpa using hi) :: bs.data.toList.drop (i + 1) := List.drop_eq_getElem_cons (by simpa using hi)
    rw [this]
    have hg : bs.get! i = bs.data[i] := by
      cases bs
      simp only [ByteArray.get!]
      exact getElem!_pos _ _ _
    simp [hg]
theorem toList_data (bs : ByteArray) : bs.toList = bs.data.toList := by
  have := toList_loop bs _ 0 [] rfl
  simpa [ByteArray.toList] using this
set_option maxHeartbeats 1000000 in
theorem equal_any (va vb : Value) (a b : List Nat) (w : World) (ha : BSl w va a) (hb : BSl w vb b) (hla : 1 ≤ a.length) (hlb : 1 ≤ b.length) :
    Calls Try.prog 90 #[va, vb] w fun e w' => e = .returned (.bool (decide (a = b))) ∧ w' = w := by
  have c1 := convS ha hla
  have c2 := convS hb hlb
  have h3 : ∀ x ∈ a, x < 256 := by obtain ⟨g, off, cap, rfl, h1, h2, h3, h4⟩ := ha.form hla; exact h3
  have h4 : ∀ x ∈ b, x < 256 := by obtain ⟨g, off, cap, rfl, h1, h2, h3, h4⟩ := hb.form hlb; exact h3
  have HD : Hid ((({ data := (a.map UInt8.ofNat).toArray } : ByteArray).toList == ({ data := (b.map UInt8.ofNat).toArray } : ByteArray).toList) = decide (a = b)) := hide (by
    rw [toList_data, toList_data]
    show (a.map UInt8.ofNat == b.map UInt8.ofNat) = decide (a = b)
    by_cases e : a = b
    · subst e; simp
    · rw [decide_eq_false e]
      exact beq_false_of_ne fun e2 => e (map_u8_inj h3 h4 e2))
  clear ha hb h3 h4
  generalize ({ data := (a.map UInt8.ofNat).toArray } : ByteArray) = sa at *
  generalize ({ data := (b.map UInt8.ofNat).toArray } : ByteArray) = sb at *
  go_enter Try.func90, Try.ntmps90
  go_wp2_with fail
  go_ret
  exact ⟨by rw [← HD.out]; rfl, rfl⟩
set_option maxHeartbeats 1000000 in
theorem isBlank_any (v : Value) (l : List Nat) (w : World) (hv : BSl w v l) :
    Calls Try.prog 64 #[v] w fun e w' => e = .returned (.bool (decide (∀ b ∈ l, b = 0))) ∧ w' = w := by
  obtain ⟨a, cap, rfl, hl1, hm, hn, hb, hcell⟩ := hv
  unfold maxLen at hm
  have HB := hide hb
  have HC := hide hcell
  clear hb hcell hn
  go_enter Try.func64, Try.ntmps64
  go_wp2_with fail
  go_loop [7] (fun i => ∃ k : Nat, k ≤ l.length ∧ i = .int .i64 k ∧ ∀ b ∈ l.take k, b = 0) (fun i => l.length - (intOf i).toNat)
  case atStart => exact ⟨0, Nat.zero_le _, rfl, fun b hb => by simp at hb⟩
  case round =>
    obtain ⟨k, hk, rfl, hz⟩ := hrel
    have HZ := hide hz
    clear hz
    by_cases hlt : k < l.length
    · have HS : Hid (l.getD k 0 = 0 → ∀ b ∈ l.take (k + 1), b = 0) := hide (fun e b hb => by
        rw [take_snoc l 0 k hlt] at hb
        rcases List.mem_append.1 hb with h | h
        · exact HZ.out b h
        · rw [List.mem_singleton.1 h, e])
      have HM : Hid (l.getD k 0 ∈ l) := hide (mem_getD hlt)
      obtain ⟨b, off, rfl, hcell⟩ := HC.out (by omega)
      have hck := hcell k hlt
      clear hcell HC
      generalize l.getD k 0 = x at *
      by_cases hx : x = 0
      · subst hx
        go_wp2
        go_round
        case rel => exact ⟨k + 1, by omega, by go_num, HS.out rfl⟩
        case measure => simp [intOf]; omega
      · have hx2 : ¬ (x : Int) = 0 := by omega
        go_wp2
        go_ret
        refine ⟨?_, rfl⟩
        rw [decide_eq_false (fun h => hx (h x HM.out))]; rfl
    · have HE : Hid (∀ b ∈ l, b = 0) := by have := HZ.out; rw [List.take_of_length_le (by omega)] at this; exact hide this
      go_wp2
      go_ret
      exact ⟨by rw [decide_eq_true HE.out]; rfl, rfl⟩
end Go.Proofs.Ytlkccencilhacaa
