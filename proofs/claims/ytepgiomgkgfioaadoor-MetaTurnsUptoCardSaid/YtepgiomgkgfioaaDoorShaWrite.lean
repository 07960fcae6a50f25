import Derived.Test.YtepgiomgkgfioaaDoorArrMid
namespace Go.Proofs.YtepgiomgkgfioaaDoor
open Go.RowKit
open Num
set_option linter.unusedVariables false
set_option maxRecDepth 20000
set_option linter.unusedSimpArgs false

theorem wpList_build_as {P : Program} {ops : Array Oper} {rest : List Oper} {o : Oper} {a : Act} {w : World} {Q : Exit → Act → World → Prop} (hgd : o.guard = none) (t : TypeId) (parts : Array (Nat × Operand)) (ho : o.op = .build t parts)
    (Z : Array Value) (hf : P.built t (parts.map fun (i, x) => (i, a.eval x)).toList = some Z)
    (h : wpList P ops Q rest (a.put o.dst (.agg Z)) w) : wpList P ops Q (o :: rest) a w := by
  refine wpList_plain hgd fun K hK => wp_build t parts ho (by rw [hf]; rfl) ?_
  rw [hf]
  exact hK _ _ h

/-- all but block g as it was -/
structure But (g : Nat) (w w' : World) : Prop where
  os : w'.os = w.os
  tape : w'.tape = w.tape
  output : w'.output = w.output
  size : w.heap.size ≤ w'.heap.size
  block : ∀ k, k < w.heap.size → k ≠ g → w'.heap[k]? = w.heap[k]?
theorem But.refl (g : Nat) (w : World) : But g w w := ⟨rfl, rfl, rfl, Nat.le_refl _, fun _ _ _ => rfl⟩
theorem But.trans {g : Nat} {a b c : World} (h : But g a b) (k : But g b c) : But g a c :=
  ⟨k.os.trans h.os, k.tape.trans h.tape, k.output.trans h.output, Nat.le_trans h.size k.size, fun i hi hg => (k.block i (Nat.lt_of_lt_of_le hi h.size) hg).trans (h.block i hi hg)⟩
theorem But.of {g : Nat} {w w' : World} (h : Below w.heap.size w w') : But g w w' := ⟨h.os, h.tape, h.output, h.size, fun k hk _ => h.block k hk⟩
theorem But.setRow (g : Nat) (w : World) (cs : Array Value) : But g w (w.setRow g cs) := ⟨rfl, rfl, rfl, by simp, fun k _ hg => setRow_other w g k cs hg⟩
theorem But.setCell (g i : Nat) (w : World) (u : Value) : But g w (w.setCell ⟨g, i, none⟩ u) := ⟨rfl, rfl, rfl, by simp [World.setCell], fun k _ hg => Go.heap_setCell_other w _ k u hg⟩
theorem But.drew {g : Nat} {a w : World} (h : But g a w) : But g a w.drew := ⟨h.os, h.tape, h.output, h.size, h.block⟩
theorem But.cell {g : Nat} {w w' : World} (h : But g w w') {b o : Nat} {v : Value} (hc : w.cell? ⟨b, o, none⟩ = some v) (hg : b ≠ g) : w'.cell? ⟨b, o, none⟩ = some v := by
  have hb := World.block_lt_of_cell? w _ hc
  rw [World.cell?_of_block (w := w) (h.block b hb hg)]; exact hc
theorem But.tab {g g2 : Nat} {w w' : World} {l : List Nat} (h : But g w w') (ht : Tab w g2 l) (hg : g2 ≠ g) : Tab w' g2 l := fun i hi => h.cell (ht i hi) hg
theorem But.below {g B : Nat} {w w' : World} (h : But g w w') (hB : B ≤ g) (hw : B ≤ w.heap.size) : Below B w w' := ⟨h.os, h.tape, h.output, h.size, fun k hk => h.block k (by omega) (by omega)⟩

/-- a slice of bytes that lies in no cell of block g -/
def BNe (g : Nat) (w : World) (v : Value) (l : List Nat) : Prop :=
  ∃ a cap, v = .slice a l.length cap ∧ l.length ≤ cap ∧ cap ≤ maxLen ∧ (∀ b ∈ l, b < 256) ∧
    (0 < l.length → ∃ b off, b ≠ g ∧ a = some ⟨b, off, none⟩ ∧ ∀ i, i < l.length → w.cell? ⟨b, off + i, none⟩ = some (.int .u8 (l.getD i 0 : Nat)))
theorem BNe.but {g : Nat} {w w' : World} {v : Value} {l : List Nat} (h : BNe g w v l) (hb : But g w w') : BNe g w' v l := by
  obtain ⟨a, cap, e, h1, h2, h3, h4⟩ := h
  refine ⟨a, cap, e, h1, h2, h3, fun hp => ?_⟩
  obtain ⟨b, off, hne, ha, hc⟩ := h4 hp
  exact ⟨b, off, hne, ha, fun i hi => hb.cell (hc i hi) hne⟩
theorem BSl.ne {w : World} {v : Value} {l : List Nat} (h : BSl w v l) {g : Nat} (hg : ∀ b off, 0 < l.length → v = .slice (some ⟨b, off, none⟩) l.length (match v with | .slice _ _ c => c | _ => 0) → b ≠ g) : BNe g w v l := by
  obtain ⟨a, cap, rfl, h1, h2, _, h3, h4⟩ := h
  refine ⟨a, cap, rfl, h1, h2, h3, fun hp => ?_⟩
  obtain ⟨b, off, rfl, hc⟩ := h4 hp
  exact ⟨b, off, hg b off hp rfl, rfl, hc⟩
/-- what came in lies below every new block -/
theorem BSl.old {w : World} {v : Value} {l : List Nat} (h : BSl w v l) {g : Nat} (hg : w.heap.size ≤ g) : BNe g w v l := by
  obtain ⟨a, cap, rfl, h1, h2, _, h3, h4⟩ := h
  refine ⟨a, cap, rfl, h1, h2, h3, fun hp => ?_⟩
  obtain ⟨b, off, rfl, hc⟩ := h4 hp
  exact ⟨b, off, by have : b < w.heap.size := World.block_lt_of_cell? w ⟨b, off + 0, none⟩ (hc 0 hp); omega, rfl, hc⟩

/-- the Hash in block g: L bytes of q have gone in, the count reads C -/
def HRow (w : World) (g : Nat) (q : List Nat) (L C : Nat) : Prop :=
  ∃ buf : List Nat, buf.length = 64 ∧ (∀ b ∈ buf, b < 256) ∧ buf.take (L % 64) = (q.take L).drop (64 * (L / 64)) ∧ w.heap[g]? = some (.cells (hcells (absorb q (L / 64)) buf C).toArray 91 (0, 0))

theorem Tryd.builtH : Tryd.prog.built 91 [(0, .agg (H0.map wordV).toArray)] = some (hcells st0 (List.replicate 64 0) 0).toArray := by kernel_rfl
theorem Tryd.sizeH : (Tryd.prog.info? 91).map (·.size) = some 73 := by kernel_rfl

theorem new_row (w : World) : HRow (w.alloc (.cells (hcells st0 (List.replicate 64 0) 0).toArray 91)) w.heap.size [] 0 0 :=
  ⟨List.replicate 64 0, by simp, fun b hb => by have := List.eq_of_mem_replicate hb; omega, rfl, Go.heap_alloc_new w _⟩

set_option maxHeartbeats 1000000 in
theorem new_any (w : World) (hH : Tab w 0 H0) :
    Calls Tryd.prog 31 #[] w fun e w' => e = .returned (.pointer (some ⟨w.heap.size, 0, none⟩)) ∧ w' = w.alloc (.cells (hcells st0 (List.replicate 64 0) 0).toArray 91) := by
  have HR := hide hH.range
  have HZ : Hid (Tryd.prog.built 91 [(0, .agg (H0.map wordV).toArray)] = some (hcells st0 (List.replicate 64 0) 0).toArray) := Tryd.builtH
  have HS : Hid ((Tryd.prog.info? 87).map (·.size) = some (H0.map wordV).length) := Tryd.sizeS
  clear hH
  generalize hcells st0 (List.replicate 64 0) 0 = Z at *
  generalize H0.map wordV = hl at *
  go_enter Tryd.func31, Tryd.ntmps31
  go_wp2_with (first
    | refine wpList_load_mid rfl 87 (.global 0) rfl 0 0 rfl hl _ HR.out Tryd.underlying87 rfl HS.out ?_
    | refine wpList_build_as rfl 91 _ rfl Z.toArray (by simp [Act.eval, Act.put]; exact HZ.out) ?_)
  go_ret
  exact ⟨rfl, rfl⟩

def sliceLen : Value → Nat | .slice _ n _ => n | _ => 0

theorem BNe.src {g : Nat} {w : World} {ad : Addr} {n cap k : Nat} {l : List Nat} (h : BNe g w (.slice (some ad) n cap) l) : ∀ j u, ((l.take k).map byteV)[j]? = some u → w.cell? (ad.add j) = some u := by
  intro j u hu
  have hj2 : j < (l.take k).length := by simpa using (List.getElem?_eq_some_iff.1 hu).1
  have hj : j < l.length := by simp at hj2; omega
  have hjk : j < k := by simp at hj2; omega
  obtain ⟨a, cap, e, h1, h2, h4, h5⟩ := h
  simp only [Value.slice.injEq] at e
  obtain ⟨rfl, rfl, rfl⟩ := e
  obtain ⟨b, off, _, e, hc⟩ := h5 (by omega)
  simp only [Option.some.injEq] at e
  subst e
  rw [Addr.add_lit, hc j hj]
  rw [map_byteV_getD hj2] at hu
  have e3 : (l.take k).getD j 0 = l.getD j 0 := by simp [List.getD, hj, hjk]
  rw [e3] at hu; exact hu

theorem BNe.cut {g : Nat} {w : World} {b off len cap n : Nat} {l : List Nat} (h : BNe g w (.slice (some ⟨b, off, none⟩) len cap) l) (hn : n ≤ l.length) (x : Option Addr) (hx : ¬ cap = n → x = some ⟨b, off + n, none⟩) : BNe g w (.slice x (len - n) (cap - n)) (l.drop n) := by
  obtain ⟨a, cap', e, h1, h2, h4, h5⟩ := h
  simp only [Value.slice.injEq] at e
  obtain ⟨rfl, rfl, rfl⟩ := e
  refine ⟨x, cap - n, by simp, by simp; omega, by omega, fun b hb => h4 b (List.mem_of_mem_drop hb), fun hp => ?_⟩
  have hp' : n < l.length := by rw [List.length_drop] at hp; omega
  obtain ⟨b', off', hne, e, hc⟩ := h5 (by omega)
  simp only [Option.some.injEq, Addr.mk.injEq, and_true] at e
  obtain ⟨rfl, rfl⟩ := e
  refine ⟨b, off + n, hne, hx (by omega), fun i hi => ?_⟩
  have hi' : n + i < l.length := by simp at hi; omega
  have := hc (n + i) hi'
  rw [show off + n + i = off + (n + i) by omega, this]
  simp [List.getD]

theorem BNe.cut0 {g : Nat} {w : World} {a x : Option Addr} {len cap n : Nat} {l : List Nat} (h : BNe g w (.slice a len cap) l) (hn : n ≤ l.length) (hcap : cap = n) : BNe g w (.slice x (len - n) 0) (l.drop n) := by
  obtain ⟨a', cap', e, h1, h2, h4, h5⟩ := h
  simp only [Value.slice.injEq] at e
  obtain ⟨rfl, rfl, rfl⟩ := e
  exact ⟨x, 0, by simp, by simp; omega, by unfold maxLen; omega, fun b hb => h4 b (List.mem_of_mem_drop hb), fun hp => by rw [List.length_drop] at hp; omega⟩

theorem hcells_newState {st st' : St} {buf : List Nat} {C : Nat} : ((hcells st buf C).toArray.toList.take 0 ++ st'.list.map wordV ++ (hcells st buf C).toArray.toList.drop (0 + (st'.list.map wordV).length)) = hcells st' buf C := by
  have : (hcells st buf C).drop 8 = buf.map byteV ++ [.int .u64 (C : Int)] := rfl
  rw [List.take_zero, List.nil_append, list_len]
  show st'.list.map wordV ++ (hcells st buf C).drop 8 = _
  rw [this, hcells]

theorem hrow_more {w : World} {g C L n : Nat} {q buf : List Nat} (hq : ∀ b ∈ q, b < 256) (hbuf : buf.length = 64) (hb : ∀ b ∈ buf, b < 256) (ht : buf.take (L % 64) = (q.take L).drop (64 * (L / 64)))
    (hg : w.heap[g]? = some (.cells (hcells (absorb q (L / 64)) buf C).toArray 91 (0, 0))) (hL : L + n ≤ q.length) (hn : L % 64 + n < 64) :
    HRow (w.setRow g (hcells (absorb q (L / 64)) (lay buf (L % 64) ((q.drop L).take n)) C).toArray) g q (L + n) C := by
  have hx : ((q.drop L).take n).length = n := by simp; omega
  have e1 : (L + n) / 64 = L / 64 := by omega
  have e2 : (L + n) % 64 = L % 64 + n := by omega
  refine ⟨lay buf (L % 64) ((q.drop L).take n), lay_len hbuf (by rw [hx]; omega), lay_lt hb (take_lt hq _ _), ?_, ?_⟩
  · rw [e1, e2]; exact lay_more hbuf hL (by omega) ht
  · rw [e1]; exact setRow_heap w g _ _ 91 (0, 0) hg
theorem hrow_full {w : World} {g C L n : Nat} {q buf : List Nat} (hq : ∀ b ∈ q, b < 256) (hL : L + n ≤ q.length) (hn : L % 64 + n = 64) (hbl : buf.length = 64) (hbb : ∀ b ∈ buf, b < 256)
    (hg : w.heap[g]? = some (.cells (hcells (absorb q (L / 64 + 1)) buf C).toArray 91 (0, 0))) : HRow w g q (L + n) C := by
  have e1 : (L + n) / 64 = L / 64 + 1 := by omega
  have e2 : (L + n) % 64 = 0 := by omega
  refine ⟨buf, hbl, hbb, ?_, by rw [e1]; exact hg⟩
  rw [e2, e1, List.take_zero, List.drop_of_length_le (by simp; omega)]

theorem wpAny_seq_drop {P : Program} {Q : Exit → Act → World → Prop} {a : Act} {w : World} {listed : Array Bool} {l : List Oper} {fuel : Nat} (n : Nat) (hf : (l.drop n).length = fuel)
    (hB : Region.seqB .any l.toArray fuel n listed = true) (h : wpList P l.toArray Q (l.drop n) a w) : wpAny P .any l.toArray Q fuel listed a w := by
  subst hf
  exact wpAny_of_seq (md := .any) (Q' := Q) (l.drop n) n listed a w (fun j => by simp [List.getElem?_drop]) hB h

theorem Tryd.lenC : Tryd.prog.arrayLen 89 = 64 := by kernel_rfl
theorem slice_tail (g f : Nat) (hf : f < 64) : ∀ wx, (Instr.sliceAt 89 (.pointer (some ⟨g, 8, none⟩)) (some (.int .i64 (f : Int))) none none).run Tryd.prog wx = .ok (.slice (some ⟨g, 8 + f, none⟩) (64 - f) (64 - f)) wx := by
  intro wx
  have hs : (sizeOf (Tryd.prog.elem 89)).run Tryd.prog wx = .ok 1 wx := by kernel_rfl
  rw [run_sliceAt_array_l wx 89 ⟨g, 8, none⟩ (by kernel_rfl) .i64 (f : Int) (by omega) (by rw [Tryd.lenC]; omega), hs, Tryd.lenC]
  have h2 : ¬ 64 = f := by omega
  simp [Result.andThen, slicedAt, h2, Addr.add_lit]

theorem BNe.cast_drop {g L n : Nat} {w : World} {v : Value} {q r : List Nat} (h : BNe g w v (r.drop n)) (hr : q.drop L = r) : BNe g w v (q.drop (L + n)) := by
  rw [← List.drop_drop, hr]; exact h

set_option maxRecDepth 100000 in
set_option maxHeartbeats 8000000 in
theorem write_any (g : Nat) (v : Value) (m p : List Nat) (w : World) (hm : ∀ b ∈ m, b < 256) (hC : m.length + p.length < 9223372036854775808) (hp : BNe g w v p) (hK : Tab w 1 Ks) (hgK : 1 ≠ g)
    (hr : HRow w g m m.length m.length) :
    Calls Tryd.prog 32 #[.pointer (some ⟨g, 0, none⟩), v] w fun e w' => e = .returned (.tuple #[]) ∧ HRow w' g (m ++ p) (m.length + p.length) (m.length + p.length) ∧ But g w w' := by
  have hqb : Hid (∀ b ∈ m ++ p, b < 256) := by
    intro b hb
    rcases List.mem_append.1 hb with h | h
    · exact hm b h
    · obtain ⟨_, _, _, _, _, h3, _⟩ := hp; exact h3 b h
  obtain ⟨buf, hbl, hbb, hbt, hrow⟩ := hr
  have hcnt : w.cell? ⟨g, 72, none⟩ = some (.int .u64 (m.length : Int)) := by rw [cell_of_row w g 72 _ _ _ hrow, List.getElem?_toArray, hcells_count hbl]
  have hcf : w.frozen? ⟨g, 72, none⟩ = false := frozen_of_row w g 72 _ _ hrow
  have hq : (m ++ p).drop m.length = p := by simp
  have hrow2 : HRow (w.setCell ⟨g, 72, none⟩ (.int .u64 ((m.length + p.length : Nat) : Int))) g (m ++ p) m.length (m.length + p.length) := by
    refine ⟨buf, hbl, hbb, ?_, ?_⟩
    · rw [hbt, List.take_append_of_le_length (Nat.le_refl _)]
    · rw [Go.heap_setCell_same w g 72 _ _ _ hrow, absorb_append _ _ _ (by omega), List.setIfInBounds_toArray, hcells_setCount hbl]
  have HP : Hid (BNe g (w.setCell ⟨g, 72, none⟩ (.int .u64 ((m.length + p.length : Nat) : Int))) v ((m ++ p).drop m.length)) := by rw [hq]; exact hp.but (But.setCell _ _ _ _)
  have HT : Hid (Tab (w.setCell ⟨g, 72, none⟩ (.int .u64 ((m.length + p.length : Nat) : Int))) 1 Ks) := (But.setCell g 72 w _).tab hK hgK
  have HBU : Hid (But g w (w.setCell ⟨g, 72, none⟩ (.int .u64 ((m.length + p.length : Nat) : Int)))) := But.setCell _ _ _ _
  have HRW := hide hrow2
  obtain ⟨a, cap, rfl, hl, hmx, hpb, hpc⟩ := hp
  unfold maxLen at hmx
  have hcast : ((m.length + p.length : Nat) : Int) = (m.length : Int) + (p.length : Int) := by omega
  rw [hcast] at HP HT HBU HRW
  generalize hql : m ++ p = q at *
  have hqlen : q.length = m.length + p.length := by rw [← hql]; simp
  have hlm : m.length < 9223372036854775808 := by omega
  have hlp : p.length < 9223372036854775808 := by omega
  generalize hmL : m.length = M at *
  generalize hpL : p.length = N at *
  have HQL := hide hqlen
  clear hpc hpb hrow hbt hbb hbl hrow2 hK hm hql hq hmL hpL hqlen
  go_enter Tryd.func32, Tryd.ntmps32
  go_wp2
  clear hcnt hcf hcast
  generalize w.setCell ⟨g, 72, none⟩ (.int .u64 ((M : Int) + (N : Int))) = w0 at *
  go_loopw [1, 4] (fun v t wr => ∃ L : Nat, L ≤ q.length ∧ t = .int .i64 ((L % 64 : Nat) : Int) ∧ BNe g wr v (q.drop L) ∧ HRow wr g q L (M + N) ∧ Tab wr 1 Ks ∧ But g w wr) (fun v _ _ => sliceLen v)
  case atStart => exact ⟨M, by rw [HQL.out]; omega, by go_num, HP.out, HRW.out, HT.out, HBU.out⟩
  case round =>
    clear HP HRW HT HBU
    obtain ⟨L, hLq, rfl, hbne, hrow, htab, hbut⟩ := hrel
    have hbne' := hbne
    obtain ⟨a1, cap1, rfl, hl1, hm1, hb1, hc1⟩ := hbne'
    have hdl : (q.drop L).length = q.length - L := by simp
    unfold maxLen at hm1
    by_cases hlt : L < q.length
    · obtain ⟨b, off, hne, rfl, hcc⟩ := hc1 (by omega)
      obtain ⟨buf, hbl, hbb, hbt, hg⟩ := hrow
      obtain ⟨f, hf⟩ : ∃ f, L % 64 = f := ⟨_, rfl⟩
      generalize hr : q.drop L = r at *
      obtain ⟨n, hn⟩ : ∃ n, Nat.min r.length (64 - f) = n := ⟨_, rfl⟩
      have hn0 : 0 < n := by rw [← hn]; exact Nat.lt_min.2 ⟨by omega, by omega⟩
      have hn1 : n ≤ r.length := by rw [← hn]; exact Nat.min_le_left _ _
      have hn2 : n ≤ 64 - f := by rw [← hn]; exact Nat.min_le_right _ _
      have hLn : L + n ≤ q.length := by omega
      have hxl : (r.take n).length = n := by simp; omega
      have HSRC := hide (hbne.src (k := n))
      have HCL : Hid (((r.take n).map byteV).length = Nat.min r.length (64 - f)) := by show _ = _; rw [List.length_map, hxl, hn]
      have HFIT : Hid (8 + f + ((r.take n).map byteV).length ≤ (hcells (absorb q (L / 64)) buf (M + N)).toArray.size) := by show _ ≤ _; rw [List.length_map, hxl, List.size_toArray, hcells_len hbl]; omega
      have HON := hide (byteV_oneCell (r.take n))
      have HLAY : Hid ((hcells (absorb q (L / 64)) buf (M + N)).toArray.toList.take (8 + f) ++ (((r.take n).map byteV) ++ (hcells (absorb q (L / 64)) buf (M + N)).toArray.toList.drop (8 + f + ((r.take n).map byteV).length)) = hcells (absorb q (L / 64)) (lay buf f (r.take n)) (M + N)) := hcells_lay hbl (by rw [hxl]; omega)
      have hcsl : ((r.take n).map byteV).length = n := by rw [List.length_map, hxl]
      have HMORE : Hid (f + n < 64 → HRow (wr.setRow g (hcells (absorb q (L / 64)) (lay buf f (r.take n)) (M + N)).toArray) g q (L + n) (M + N)) := by
        intro h; have := hrow_more hqb.out hbl hbb hbt hg hLn (by rw [hf]; exact h); rwa [hf, hr] at this
      have HMOD : Hid (f + n < 64 → (L + n) % 64 = f + n) := by intro h; omega
      have HMOD0 : Hid (f + n = 64 → (L + n) % 64 = 0) := by intro h; omega
      have HLF : Hid (f + n = 64 → lay buf f (r.take n) = (q.drop (64 * (L / 64))).take 64) := by
        intro h; have := lay_full hbl hLn (by rw [hf]; exact h) hbt; rwa [hf, hr] at this
      have HLL : Hid ((lay buf f (r.take n)).length = 64) := lay_len hbl (by rw [hxl]; omega)
      have HLB : Hid (∀ x ∈ lay buf f (r.take n), x < 256) := lay_lt hbb (fun x hx => hqb.out x (by rw [← hr] at hx; exact List.mem_of_mem_drop (List.mem_of_mem_take hx)))
      have HG := hide hg
      have HBN := hide hbne
      have HTB := hide htab
      have HBU := hide hbut
      have HRr := hide hr
      have hf64 : f < 64 := by omega
      have hsa := slice_tail g f hf64
      rw [hf]
      generalize hst : absorb q (L / 64) = st at *
      have HST := hide hst
      generalize hcs : ((r.take n).map byteV) = cs at *
      generalize hcur : (hcells st buf (M + N)) = cur at *
      generalize hlb : lay buf f (r.take n) = buf' at *
      generalize hcur' : (hcells st buf' (M + N)) = cur' at *
      have HCUR' := hide hcur'
      have hnI : (0 : Int) ≤ (n : Int) ∧ (n : Int) ≤ (r.length : Int) := by omega
      clear hg hbne hbt htab hbut hbb hc1 hcc hb1 hn hcs hcur hf hdl hxl hne hst hlb hcur' hbl hr
      by_cases hfull : f + n = 64
      · have heq : (((f : Int) + (n : Int)) == 64) = true := by rw [beq_iff_eq]; omega
        by_cases hcap : cap1 = n
        · go_wp2_with (refine wpList_copy_own rfl (.tmp 29) (.tmp 30) 29 29 rfl 5 Tryd.underlying29 (by kernel_rfl) g (8 + f) (64 - f) (64 - f) ⟨b, off, none⟩ r.length cap1 rfl rfl cur.toArray 91 HG.out cs HCL.out HSRC.out HFIT.out HON.out ?_; rw [HLAY.out])
          have HW1 : Hid ((wr.setRow g cur'.toArray).heap[g]? = some (.cells cur'.toArray 91 (0, 0))) := setRow_heap wr g _ _ 91 (0, 0) HG.out
          have HB1 := hide (HBU.out.trans (But.setRow g wr cur'.toArray))
          have HT1 := hide ((But.setRow g wr cur'.toArray).tab HTB.out hgK)
          have HP1 := hide (((HBN.out.cut0 (x := some ⟨b, off, none⟩) hn1 hcap).but (But.setRow g wr cur'.toArray)).cast_drop HRr.out)
          generalize wr.setRow g cur'.toArray = W1 at *
          have HRA : Hid (W1.drew.rangeAt g 0 (st.list.map wordV)) := by
            intro j v hv; show W1.cell? _ = _; rw [cell_of_row _ _ _ _ _ _ HW1.out, List.getElem?_toArray, Nat.zero_add, ← HCUR'.out]; exact hcells_state _ _ _ j v hv
          have HRB : Hid (W1.drew.rangeAt g 8 (buf'.map byteV)) := by
            intro j v hv; show W1.cell? _ = _; rw [cell_of_row _ _ _ _ _ _ HW1.out, List.getElem?_toArray, ← HCUR'.out]; exact hcells_buf HLL.out j v hv
          have HSC : Hid ((Tryd.prog.info? 89).map (·.size) = some (buf'.map byteV).length) := by show _ = _; rw [List.length_map, HLL.out]; exact Tryd.sizeC
          have HMX := hide (mix_any st (by rw [← HST.out]; exact absorb_ok q _) buf' HLL.out HLB.out W1.drew HT1.out)
          have HNS : Hid (absorb q (L / 64 + 1) = mixS Ks st buf') := by show mixS Ks (absorb q (L / 64)) _ = _; rw [HST.out, HLF.out hfull]
          have HFT : Hid (0 + ((mixS Ks st buf').list.map wordV).length ≤ cur'.toArray.size) := by show _ ≤ _; rw [list_len, List.size_toArray, ← HCUR'.out, hcells_len HLL.out]; omega
          have HO2 : Hid (∀ v ∈ (mixS Ks st buf').list.map wordV, v.oneCell' = true) := fun v hv => by obtain ⟨_, _, rfl⟩ := List.mem_map.1 hv; rfl
          have HCC : Hid ((cur'.toArray.toList.take 0 ++ (mixS Ks st buf').list.map wordV ++ cur'.toArray.toList.drop (0 + ((mixS Ks st buf').list.map wordV).length)) = hcells (mixS Ks st buf') buf' (M + N)) := by rw [← HCUR'.out]; exact hcells_newState
          generalize hst2 : mixS Ks st buf' = st2 at *
          generalize hsl1 : st.list.map wordV = sl1 at *
          have HS1 : Hid ((Tryd.prog.info? 87).map (·.size) = some sl1.length) := by show _ = _; rw [← hsl1]; exact Tryd.sizeS
          generalize hsl2 : st2.list.map wordV = sl2 at *
          have HS2 : Hid ((Tryd.prog.info? 87).map (·.size) = some sl2.length) := by show _ = _; rw [← hsl2]; exact Tryd.sizeS
          generalize hbl2 : buf'.map byteV = bl2 at *
          clear hst2 hsl1 hsl2 hbl2 HMORE HMOD HLAY HFIT HON HCL HSRC hsa HG
          refine wp_region_any (by kernel_rfl) ?_
          refine wpAny_take (i := 0) (v := .pointer (some ⟨g, 0, none⟩)) rfl (by kernel_rfl) (by kernel_rfl) (by kernel_rfl) (fun _ _ _ h => h) (Or.inl ⟨rfl, fun wx => by go_simp⟩) ?_
          simp only [List.getElem_toArray, List.getElem_cons_succ, List.getElem_cons_zero, Act.put, List.setIfInBounds_toArray, List.set_cons_zero, List.set_cons_succ]
          refine wpAny_take (i := 1) (v := .pointer (some ⟨g, 0, none⟩)) rfl (by kernel_rfl) (by kernel_rfl) (by kernel_rfl) (fun _ _ _ h => h) (Or.inl ⟨rfl, fun wx => by go_simp⟩) ?_
          simp only [List.getElem_toArray, List.getElem_cons_succ, List.getElem_cons_zero, Act.put, List.setIfInBounds_toArray, List.set_cons_zero, List.set_cons_succ]
          refine wpAny_take (i := 2) (v := .pointer (some ⟨g, 0, none⟩)) rfl (by kernel_rfl) (by kernel_rfl) (by kernel_rfl) (fun _ _ _ h => h) (Or.inl ⟨rfl, fun wx => by go_simp⟩) ?_
          simp only [List.getElem_toArray, List.getElem_cons_succ, List.getElem_cons_zero, Act.put, List.setIfInBounds_toArray, List.set_cons_zero, List.set_cons_succ]
          refine wpAny_take (i := 3) (v := .pointer (some ⟨g, 0, none⟩)) rfl (by kernel_rfl) (by kernel_rfl) (by kernel_rfl) (fun _ _ _ h => h) (Or.inl ⟨rfl, fun wx => by go_simp⟩) ?_
          simp only [List.getElem_toArray, List.getElem_cons_succ, List.getElem_cons_zero, Act.put, List.setIfInBounds_toArray, List.set_cons_zero, List.set_cons_succ]
          refine wpAny_take (i := 5) (v := .pointer (some ⟨g, 0, none⟩)) rfl (by kernel_rfl) (by kernel_rfl) (by kernel_rfl) (fun _ _ _ h => h) (Or.inl ⟨rfl, fun wx => by go_simp⟩) ?_
          simp only [List.getElem_toArray, List.getElem_cons_succ, List.getElem_cons_zero, Act.put, List.setIfInBounds_toArray, List.set_cons_zero, List.set_cons_succ]
          refine wpAny_take (i := 6) (v := .pointer (some ⟨g, 0, none⟩)) rfl (by kernel_rfl) (by kernel_rfl) (by kernel_rfl) (fun _ _ _ h => h) (Or.inl ⟨rfl, fun wx => by go_simp⟩) ?_
          simp only [List.getElem_toArray, List.getElem_cons_succ, List.getElem_cons_zero, Act.put, List.setIfInBounds_toArray, List.set_cons_zero, List.set_cons_succ]
          refine wpAny_take (i := 7) (v := .pointer (some ⟨g, 8, none⟩)) rfl (by kernel_rfl) (by kernel_rfl) (by kernel_rfl) (fun _ _ _ h => h) (Or.inl ⟨rfl, fun wx => by go_simp⟩) ?_
          simp only [List.getElem_toArray, List.getElem_cons_succ, List.getElem_cons_zero, Act.put, List.setIfInBounds_toArray, List.set_cons_zero, List.set_cons_succ]
          refine wpAny_all (rs := [4, 8]) (by kernel_rfl) (by simp) ?_
          intro i hi
          simp only [List.mem_cons, List.not_mem_nil, or_false] at hi
          rcases hi with rfl | rfl
          · unfold wpOp
            simp only [List.getElem?_toArray, List.getElem?_cons_succ, List.getElem?_cons_zero]
            rw [if_pos (show Region.wanted _ _ = true from rfl)]
            refine Or.inl (wp_load_mid 87 (.tmp 43) rfl g 0 rfl sl1 _ HRA.out Tryd.underlying87 rfl HS1.out ?_)
            simp only [List.getElem_toArray, List.getElem_cons_succ, List.getElem_cons_zero, Act.put, List.setIfInBounds_toArray, List.set_cons_zero, List.set_cons_succ]
            refine wpAny_all (rs := [8]) (by kernel_rfl) (by simp) ?_
            intro i hi
            simp only [List.mem_cons, List.not_mem_nil, or_false] at hi
            subst hi
            unfold wpOp
            simp only [List.getElem?_toArray, List.getElem?_cons_succ, List.getElem?_cons_zero]
            rw [if_pos (show Region.wanted _ _ = true from rfl)]
            refine Or.inl (wp_load_mid 89 (.tmp 47) rfl g 8 rfl bl2 _ HRB.out Tryd.underlying89 rfl HSC.out ?_)
            simp only [List.getElem_toArray, List.getElem_cons_succ, List.getElem_cons_zero, Act.put, List.setIfInBounds_toArray, List.set_cons_zero, List.set_cons_succ]
            refine wpAny_seq_drop 9 (by kernel_rfl) (by kernel_rfl) ?_
            simp only [List.drop_succ_cons, List.drop_zero]
            go_wp2_with fail
            refine HMX.out.mono ?_
            rintro e w2 ⟨rfl, hb2⟩
            have HG2 := hide (heap_kept (w := W1.drew) hb2 HW1.out)
            have HBX : Hid (But g W1 w2) := (But.refl g W1).drew.trans (But.of hb2)
            clear hb2
            go_wp2_with (refine wpList_store_at rfl 87 _ _ rfl g 0 sl2 rfl rfl 91 cur'.toArray HG2.out HS2.out HFT.out HO2.out ?_; rw [HCC.out])
            go_roundw
            case rel => exact ⟨L + n, by omega, by rw [HMOD0.out hfull]; rfl, HP1.out.but (HBX.out.trans (But.setRow _ _ _)), hrow_full hqb.out hLn (by have := HMOD0.out hfull; omega) HLL.out HLB.out (by rw [HNS.out]; exact setRow_heap w2 g _ _ 91 (0, 0) HG2.out), (HBX.out.trans (But.setRow _ _ _)).tab HT1.out hgK, HB1.out.trans (HBX.out.trans (But.setRow _ _ _))⟩
            case measure => simp [sliceLen]; omega
          · unfold wpOp
            simp only [List.getElem?_toArray, List.getElem?_cons_succ, List.getElem?_cons_zero]
            rw [if_pos (show Region.wanted _ _ = true from rfl)]
            refine Or.inl (wp_load_mid 89 (.tmp 47) rfl g 8 rfl bl2 _ HRB.out Tryd.underlying89 rfl HSC.out ?_)
            simp only [List.getElem_toArray, List.getElem_cons_succ, List.getElem_cons_zero, Act.put, List.setIfInBounds_toArray, List.set_cons_zero, List.set_cons_succ]
            refine wpAny_all (rs := [4]) (by kernel_rfl) (by simp) ?_
            intro i hi
            simp only [List.mem_cons, List.not_mem_nil, or_false] at hi
            subst hi
            unfold wpOp
            simp only [List.getElem?_toArray, List.getElem?_cons_succ, List.getElem?_cons_zero]
            rw [if_pos (show Region.wanted _ _ = true from rfl)]
            refine Or.inl (wp_load_mid 87 (.tmp 43) rfl g 0 rfl sl1 _ HRA.out Tryd.underlying87 rfl HS1.out ?_)
            simp only [List.getElem_toArray, List.getElem_cons_succ, List.getElem_cons_zero, Act.put, List.setIfInBounds_toArray, List.set_cons_zero, List.set_cons_succ]
            refine wpAny_seq_drop 9 (by kernel_rfl) (by kernel_rfl) ?_
            simp only [List.drop_succ_cons, List.drop_zero]
            go_wp2_with fail
            refine HMX.out.mono ?_
            rintro e w2 ⟨rfl, hb2⟩
            have HG2 := hide (heap_kept (w := W1.drew) hb2 HW1.out)
            have HBX : Hid (But g W1 w2) := (But.refl g W1).drew.trans (But.of hb2)
            clear hb2
            go_wp2_with (refine wpList_store_at rfl 87 _ _ rfl g 0 sl2 rfl rfl 91 cur'.toArray HG2.out HS2.out HFT.out HO2.out ?_; rw [HCC.out])
            go_roundw
            case rel => exact ⟨L + n, by omega, by rw [HMOD0.out hfull]; rfl, HP1.out.but (HBX.out.trans (But.setRow _ _ _)), hrow_full hqb.out hLn (by have := HMOD0.out hfull; omega) HLL.out HLB.out (by rw [HNS.out]; exact setRow_heap w2 g _ _ 91 (0, 0) HG2.out), (HBX.out.trans (But.setRow _ _ _)).tab HT1.out hgK, HB1.out.trans (HBX.out.trans (But.setRow _ _ _))⟩
            case measure => simp [sliceLen]; omega
        · go_wp2_with (refine wpList_copy_own rfl (.tmp 29) (.tmp 30) 29 29 rfl 5 Tryd.underlying29 (by kernel_rfl) g (8 + f) (64 - f) (64 - f) ⟨b, off, none⟩ r.length cap1 rfl rfl cur.toArray 91 HG.out cs HCL.out HSRC.out HFIT.out HON.out ?_; rw [HLAY.out])
          have HW1 : Hid ((wr.setRow g cur'.toArray).heap[g]? = some (.cells cur'.toArray 91 (0, 0))) := setRow_heap wr g _ _ 91 (0, 0) HG.out
          have HB1 := hide (HBU.out.trans (But.setRow g wr cur'.toArray))
          have HT1 := hide ((But.setRow g wr cur'.toArray).tab HTB.out hgK)
          have HP1 := hide (((HBN.out.cut hn1 (some ⟨b, off + n, none⟩) (fun _ => rfl)).but (But.setRow g wr cur'.toArray)).cast_drop HRr.out)
          generalize wr.setRow g cur'.toArray = W1 at *
          have HRA : Hid (W1.drew.rangeAt g 0 (st.list.map wordV)) := by
            intro j v hv; show W1.cell? _ = _; rw [cell_of_row _ _ _ _ _ _ HW1.out, List.getElem?_toArray, Nat.zero_add, ← HCUR'.out]; exact hcells_state _ _ _ j v hv
          have HRB : Hid (W1.drew.rangeAt g 8 (buf'.map byteV)) := by
            intro j v hv; show W1.cell? _ = _; rw [cell_of_row _ _ _ _ _ _ HW1.out, List.getElem?_toArray, ← HCUR'.out]; exact hcells_buf HLL.out j v hv
          have HSC : Hid ((Tryd.prog.info? 89).map (·.size) = some (buf'.map byteV).length) := by show _ = _; rw [List.length_map, HLL.out]; exact Tryd.sizeC
          have HMX := hide (mix_any st (by rw [← HST.out]; exact absorb_ok q _) buf' HLL.out HLB.out W1.drew HT1.out)
          have HNS : Hid (absorb q (L / 64 + 1) = mixS Ks st buf') := by show mixS Ks (absorb q (L / 64)) _ = _; rw [HST.out, HLF.out hfull]
          have HFT : Hid (0 + ((mixS Ks st buf').list.map wordV).length ≤ cur'.toArray.size) := by show _ ≤ _; rw [list_len, List.size_toArray, ← HCUR'.out, hcells_len HLL.out]; omega
          have HO2 : Hid (∀ v ∈ (mixS Ks st buf').list.map wordV, v.oneCell' = true) := fun v hv => by obtain ⟨_, _, rfl⟩ := List.mem_map.1 hv; rfl
          have HCC : Hid ((cur'.toArray.toList.take 0 ++ (mixS Ks st buf').list.map wordV ++ cur'.toArray.toList.drop (0 + ((mixS Ks st buf').list.map wordV).length)) = hcells (mixS Ks st buf') buf' (M + N)) := by rw [← HCUR'.out]; exact hcells_newState
          generalize hst2 : mixS Ks st buf' = st2 at *
          generalize hsl1 : st.list.map wordV = sl1 at *
          have HS1 : Hid ((Tryd.prog.info? 87).map (·.size) = some sl1.length) := by show _ = _; rw [← hsl1]; exact Tryd.sizeS
          generalize hsl2 : st2.list.map wordV = sl2 at *
          have HS2 : Hid ((Tryd.prog.info? 87).map (·.size) = some sl2.length) := by show _ = _; rw [← hsl2]; exact Tryd.sizeS
          generalize hbl2 : buf'.map byteV = bl2 at *
          clear hst2 hsl1 hsl2 hbl2 HMORE HMOD HLAY HFIT HON HCL HSRC hsa HG
          refine wp_region_any (by kernel_rfl) ?_
          refine wpAny_take (i := 0) (v := .pointer (some ⟨g, 0, none⟩)) rfl (by kernel_rfl) (by kernel_rfl) (by kernel_rfl) (fun _ _ _ h => h) (Or.inl ⟨rfl, fun wx => by go_simp⟩) ?_
          simp only [List.getElem_toArray, List.getElem_cons_succ, List.getElem_cons_zero, Act.put, List.setIfInBounds_toArray, List.set_cons_zero, List.set_cons_succ]
          refine wpAny_take (i := 1) (v := .pointer (some ⟨g, 0, none⟩)) rfl (by kernel_rfl) (by kernel_rfl) (by kernel_rfl) (fun _ _ _ h => h) (Or.inl ⟨rfl, fun wx => by go_simp⟩) ?_
          simp only [List.getElem_toArray, List.getElem_cons_succ, List.getElem_cons_zero, Act.put, List.setIfInBounds_toArray, List.set_cons_zero, List.set_cons_succ]
          refine wpAny_take (i := 2) (v := .pointer (some ⟨g, 0, none⟩)) rfl (by kernel_rfl) (by kernel_rfl) (by kernel_rfl) (fun _ _ _ h => h) (Or.inl ⟨rfl, fun wx => by go_simp⟩) ?_
          simp only [List.getElem_toArray, List.getElem_cons_succ, List.getElem_cons_zero, Act.put, List.setIfInBounds_toArray, List.set_cons_zero, List.set_cons_succ]
          refine wpAny_take (i := 3) (v := .pointer (some ⟨g, 0, none⟩)) rfl (by kernel_rfl) (by kernel_rfl) (by kernel_rfl) (fun _ _ _ h => h) (Or.inl ⟨rfl, fun wx => by go_simp⟩) ?_
          simp only [List.getElem_toArray, List.getElem_cons_succ, List.getElem_cons_zero, Act.put, List.setIfInBounds_toArray, List.set_cons_zero, List.set_cons_succ]
          refine wpAny_take (i := 5) (v := .pointer (some ⟨g, 0, none⟩)) rfl (by kernel_rfl) (by kernel_rfl) (by kernel_rfl) (fun _ _ _ h => h) (Or.inl ⟨rfl, fun wx => by go_simp⟩) ?_
          simp only [List.getElem_toArray, List.getElem_cons_succ, List.getElem_cons_zero, Act.put, List.setIfInBounds_toArray, List.set_cons_zero, List.set_cons_succ]
          refine wpAny_take (i := 6) (v := .pointer (some ⟨g, 0, none⟩)) rfl (by kernel_rfl) (by kernel_rfl) (by kernel_rfl) (fun _ _ _ h => h) (Or.inl ⟨rfl, fun wx => by go_simp⟩) ?_
          simp only [List.getElem_toArray, List.getElem_cons_succ, List.getElem_cons_zero, Act.put, List.setIfInBounds_toArray, List.set_cons_zero, List.set_cons_succ]
          refine wpAny_take (i := 7) (v := .pointer (some ⟨g, 8, none⟩)) rfl (by kernel_rfl) (by kernel_rfl) (by kernel_rfl) (fun _ _ _ h => h) (Or.inl ⟨rfl, fun wx => by go_simp⟩) ?_
          simp only [List.getElem_toArray, List.getElem_cons_succ, List.getElem_cons_zero, Act.put, List.setIfInBounds_toArray, List.set_cons_zero, List.set_cons_succ]
          refine wpAny_all (rs := [4, 8]) (by kernel_rfl) (by simp) ?_
          intro i hi
          simp only [List.mem_cons, List.not_mem_nil, or_false] at hi
          rcases hi with rfl | rfl
          · unfold wpOp
            simp only [List.getElem?_toArray, List.getElem?_cons_succ, List.getElem?_cons_zero]
            rw [if_pos (show Region.wanted _ _ = true from rfl)]
            refine Or.inl (wp_load_mid 87 (.tmp 43) rfl g 0 rfl sl1 _ HRA.out Tryd.underlying87 rfl HS1.out ?_)
            simp only [List.getElem_toArray, List.getElem_cons_succ, List.getElem_cons_zero, Act.put, List.setIfInBounds_toArray, List.set_cons_zero, List.set_cons_succ]
            refine wpAny_all (rs := [8]) (by kernel_rfl) (by simp) ?_
            intro i hi
            simp only [List.mem_cons, List.not_mem_nil, or_false] at hi
            subst hi
            unfold wpOp
            simp only [List.getElem?_toArray, List.getElem?_cons_succ, List.getElem?_cons_zero]
            rw [if_pos (show Region.wanted _ _ = true from rfl)]
            refine Or.inl (wp_load_mid 89 (.tmp 47) rfl g 8 rfl bl2 _ HRB.out Tryd.underlying89 rfl HSC.out ?_)
            simp only [List.getElem_toArray, List.getElem_cons_succ, List.getElem_cons_zero, Act.put, List.setIfInBounds_toArray, List.set_cons_zero, List.set_cons_succ]
            refine wpAny_seq_drop 9 (by kernel_rfl) (by kernel_rfl) ?_
            simp only [List.drop_succ_cons, List.drop_zero]
            go_wp2_with fail
            refine HMX.out.mono ?_
            rintro e w2 ⟨rfl, hb2⟩
            have HG2 := hide (heap_kept (w := W1.drew) hb2 HW1.out)
            have HBX : Hid (But g W1 w2) := (But.refl g W1).drew.trans (But.of hb2)
            clear hb2
            go_wp2_with (refine wpList_store_at rfl 87 _ _ rfl g 0 sl2 rfl rfl 91 cur'.toArray HG2.out HS2.out HFT.out HO2.out ?_; rw [HCC.out])
            go_roundw
            case rel => exact ⟨L + n, by omega, by rw [HMOD0.out hfull]; rfl, HP1.out.but (HBX.out.trans (But.setRow _ _ _)), hrow_full hqb.out hLn (by have := HMOD0.out hfull; omega) HLL.out HLB.out (by rw [HNS.out]; exact setRow_heap w2 g _ _ 91 (0, 0) HG2.out), (HBX.out.trans (But.setRow _ _ _)).tab HT1.out hgK, HB1.out.trans (HBX.out.trans (But.setRow _ _ _))⟩
            case measure => simp [sliceLen]; omega
          · unfold wpOp
            simp only [List.getElem?_toArray, List.getElem?_cons_succ, List.getElem?_cons_zero]
            rw [if_pos (show Region.wanted _ _ = true from rfl)]
            refine Or.inl (wp_load_mid 89 (.tmp 47) rfl g 8 rfl bl2 _ HRB.out Tryd.underlying89 rfl HSC.out ?_)
            simp only [List.getElem_toArray, List.getElem_cons_succ, List.getElem_cons_zero, Act.put, List.setIfInBounds_toArray, List.set_cons_zero, List.set_cons_succ]
            refine wpAny_all (rs := [4]) (by kernel_rfl) (by simp) ?_
            intro i hi
            simp only [List.mem_cons, List.not_mem_nil, or_false] at hi
            subst hi
            unfold wpOp
            simp only [List.getElem?_toArray, List.getElem?_cons_succ, List.getElem?_cons_zero]
            rw [if_pos (show Region.wanted _ _ = true from rfl)]
            refine Or.inl (wp_load_mid 87 (.tmp 43) rfl g 0 rfl sl1 _ HRA.out Tryd.underlying87 rfl HS1.out ?_)
            simp only [List.getElem_toArray, List.getElem_cons_succ, List.getElem_cons_zero, Act.put, List.setIfInBounds_toArray, List.set_cons_zero, List.set_cons_succ]
            refine wpAny_seq_drop 9 (by kernel_rfl) (by kernel_rfl) ?_
            simp only [List.drop_succ_cons, List.drop_zero]
            go_wp2_with fail
            refine HMX.out.mono ?_
            rintro e w2 ⟨rfl, hb2⟩
            have HG2 := hide (heap_kept (w := W1.drew) hb2 HW1.out)
            have HBX : Hid (But g W1 w2) := (But.refl g W1).drew.trans (But.of hb2)
            clear hb2
            go_wp2_with (refine wpList_store_at rfl 87 _ _ rfl g 0 sl2 rfl rfl 91 cur'.toArray HG2.out HS2.out HFT.out HO2.out ?_; rw [HCC.out])
            go_roundw
            case rel => exact ⟨L + n, by omega, by rw [HMOD0.out hfull]; rfl, HP1.out.but (HBX.out.trans (But.setRow _ _ _)), hrow_full hqb.out hLn (by have := HMOD0.out hfull; omega) HLL.out HLB.out (by rw [HNS.out]; exact setRow_heap w2 g _ _ 91 (0, 0) HG2.out), (HBX.out.trans (But.setRow _ _ _)).tab HT1.out hgK, HB1.out.trans (HBX.out.trans (But.setRow _ _ _))⟩
            case measure => simp [sliceLen]; omega
      · have hlt64 : f + n < 64 := by omega
        have heq : (((f : Int) + (n : Int)) == 64) = false := by rw [beq_eq_false_iff_ne]; omega
        have HM2 := hide (HMOD.out hlt64)
        by_cases hcap : cap1 = n
        · go_wp2_with (refine wpList_copy_own rfl (.tmp 29) (.tmp 30) 29 29 rfl 5 Tryd.underlying29 (by kernel_rfl) g (8 + f) (64 - f) (64 - f) ⟨b, off, none⟩ r.length cap1 rfl rfl cur.toArray 91 HG.out cs HCL.out HSRC.out HFIT.out HON.out ?_; rw [HLAY.out])
          go_roundw
          case rel => exact ⟨L + n, by omega, by rw [HM2.out]; go_num, ((HBN.out.cut0 hn1 hcap).but (But.setRow _ _ _)).cast_drop HRr.out, HMORE.out (by omega), (But.setRow g wr _).tab HTB.out hgK, HBU.out.trans (But.setRow _ _ _)⟩
          case measure => simp [sliceLen]; omega
        · go_wp2_with (refine wpList_copy_own rfl (.tmp 29) (.tmp 30) 29 29 rfl 5 Tryd.underlying29 (by kernel_rfl) g (8 + f) (64 - f) (64 - f) ⟨b, off, none⟩ r.length cap1 rfl rfl cur.toArray 91 HG.out cs HCL.out HSRC.out HFIT.out HON.out ?_; rw [HLAY.out])
          go_roundw
          case rel => exact ⟨L + n, by omega, by rw [HM2.out]; go_num, ((HBN.out.cut hn1 _ (fun _ => rfl)).but (But.setRow _ _ _)).cast_drop HRr.out, HMORE.out (by omega), (But.setRow g wr _).tab HTB.out hgK, HBU.out.trans (But.setRow _ _ _)⟩
          case measure => simp [sliceLen]; omega
    · go_wp2
      go_end0
      have hLe : L = q.length := by omega
      rw [HQL.out] at hLe
      subst hLe
      exact ⟨rfl, hrow, hbut⟩
end Go.Proofs.YtepgiomgkgfioaaDoor
