import Derived.Test.YthkkinmegileaaaPLru6
namespace Go.Proofs.Ythkkinmegileaaa.Sp
open Go.RowKit Go.Sort
set_option linter.unusedVariables false
set_option linter.unusedSimpArgs false
set_option maxRecDepth 20000

theorem step_appendC {P : Program} {w : World} {ops : Array Oper} {o : Oper} {a : Act} {K : Act → World → Prop} {Q : Exit → Act → World → Prop} {E : Prop} (hgd : o.guard = none) (s x : Operand) (t : TypeId)
    (ho : o.op = .call { callee := .builtin .append, args := #[s, x], argTypes := #[t, t] })
    (e : TypeId) (i : TypeInfo) (z : Value) (size bytes : Nat) (ht : P.underlying t = some (.slice e)) (hi : P.info? e = some i) (hz : i.zero = some z) (hsize : i.size = size) (hby : i.bytes = bytes) (hzs : z.cells.size = size) (hsz : 0 < size)
    (v : Value) (n : Nat) (xs : List Value) (hs : a.eval s = v) (hown : w.ownsRow 0 e size v n xs) (ad : Addr) (m c : Nat) (news : List Value) (hx : a.eval x = .slice (some ad) m c) (hl : news.length = m * size) (hm : 0 < m) (hnews : ∀ j u, news[j]? = some u → w.cell? (ad.add j) = some u) (h1 : ∀ u ∈ news, u.oneCell' = true) (h63 : n + m ≤ maxLen) (hbytes : ((n + m) + (n + m) / 4 + 192) * bytes ≤ 281474976710656)
    (h : ∀ v' w', w'.ownsRow 0 e size v' (n + m) (xs ++ news) → UponC w w' v v' → K (a.put o.dst v') w') :
    if Region.wanted o (yielded ops a.tmps) = true then Oper.wp P o a w K Q else E := by
  have hw : Region.wanted o (yielded ops a.tmps) = true := by simp [Region.wanted, hgd]
  rw [if_pos hw]
  obtain ⟨v', w', hr, h2, h3⟩ := run_appendC (P := P) w t o.type e i z size bytes ht hi hz hsize hby hzs hsz v n xs hown ad m c news hl hm hnews h1 h63 hbytes
  unfold Oper.wp execOp
  simp only [ho, resolve, invoke, builtin, Sem.run_bind, Sem.run_pure, Result.andThen_ok, List.map_toArray, List.map_cons, List.map_nil, hs, hx, hr]
  exact h v' w' h2 h3
theorem upon_drew {w w' : World} {v v' : Value} (h : UponC w.drew w' v v') : Upon w w' v v' := by
  rcases h with ⟨e, h⟩ | ⟨g, e1, e2, h⟩
  · exact .inl ⟨e, ⟨h.os, h.tape, h.output, h.size, h.block⟩⟩
  · exact .inr ⟨g, e1, e2, ⟨h.os, h.tape, h.output, h.size, h.block⟩⟩
theorem slForm2 {w : World} {e : TypeId} {v : Value} {n : Nat} {xs : List Value} (h : w.ownsRow 0 e 2 v (n + 1) xs) : ∃ g cap, v = .slice (some ⟨g, 0, none⟩) (n + 1) cap := by
  rcases h.2 with ⟨_, e⟩ | ⟨g, cap, _, e, _⟩
  · omega
  · exact ⟨g, cap, e⟩
theorem AllReadyH.one_map {H : Type} {P : Program} {md : Region.Mode} {ops : Array Oper} {Q : Exit → Act → World → Prop} {S : World → Prop} {fuel : Nat} {listed : Array Bool} {a : Act} {w : World} {i : Nat} {o : Oper} (ho : ops[i]? = some o) (hw : Region.wanted o (yielded ops a.tmps) = true) (m x v : Operand) (t : TypeId) (hop : o.op = Op.mapUpdate t m x v)
    (k e : TypeId) (K : Maps.Keyed P k) (ht : P.underlying t = some (.map k e)) (R : Value → Option (DataW H × List MemPlace)) (b n : Nat) (D : DataW H)
    (hm : a.eval m = .map (some b)) (hown : w.ownsMap P k R b n D) (hn : n < maxLen) (key val : Value) (kl : Lit) (hx : a.eval x = key) (hv : a.eval v = val) (hkey : keyOf P k key = some kl)
    (d : DataW H) (ps : List MemPlace) (hval : R val = some (d, ps))
    (hK : ∀ w', w'.ownsMap P k R b (n + 1) (D.put kl d) → w.grownBy w' (some b) → S w' ∧ wpAnyH P md ops Q S fuel (listed.setIfInBounds i true) (a.put o.dst undef) w') :
    AllReadyH P md ops Q S fuel listed a w [i] := by
  refine AllReadyH.cons ho (fun K' hK' => ?_) AllReadyH.nil
  rw [if_pos hw]
  obtain ⟨w', hrun, r1, r2⟩ := hown.update K ht hn hkey hval
  unfold Oper.wp
  simp [execOp, hop, hm, hx, hv, hrun, Result.andThen]
  obtain ⟨h1, h2⟩ := hK w' r1 r2
  exact hK'.out _ _ h1 (fun _ => h2)
theorem info_spot : (Try.prog.info? 34).map (fun i => (i.zero, i.size, i.bytes)) = some (some (.agg #[.int .i64 0, .int .u8 0]), 2, 16) := by kernel_rfl
theorem spot_parts {o : Option TypeInfo} {z : Value} {n m : Nat} (h : o.map (fun i => (i.zero, i.size, i.bytes)) = some (some z, n, m)) : ∃ i, o = some i ∧ i.zero = some z ∧ i.size = n ∧ i.bytes = m := by
  cases o with
  | none => simp at h
  | some i => simp only [Option.map_some, Option.some.injEq, Prod.mk.injEq] at h; exact ⟨i, rfl, h.1, h.2.1, h.2.2⟩
theorem cell_two_new (w : World) (x y : Value) (t : TypeId) : ∀ (j : Nat) (u : Value), [x, y][j]? = some u → (w.alloc (.cells #[x, y] t)).cell? ((⟨w.heap.size, 0, none⟩ : Addr).add j) = some u := fun j u h => by
  have hadd : (⟨w.heap.size, 0, none⟩ : Addr).add j = ⟨w.heap.size, j, none⟩ := by unfold Addr.add; split <;> simp_all
  rw [hadd, cell_of_row _ _ _ _ _ _ (Go.heap_alloc_new w _)]
  rw [← Array.getElem?_toList]
  exact h
/-- where the Lru's blocks lie behind a call -/
def LLoc (w : World) (p bm : Nat) (kv rv iv kv' rv' iv' : Value) : Prop := ∀ b, LU p bm kv' rv' iv' b → LU p bm kv rv iv b ∨ w.heap.size ≤ b
set_option maxHeartbeats 2000000 in
/-- a key more -/
theorem add_any {w : World} {p bm : Nat} {kv rv iv : Value} {S : LS} {M : Nat} {key : Int} (h : LRep w p bm kv rv iv S) (hS : S.Ok M) (hk : i64ok key) (hn : key ∉ S.ks) (hl : S.ks.length < S.slots) :
    Calls Try.prog 56 #[.pointer (some ⟨p, 0, none⟩), .agg #[.int .i64 (pA key), .int .u8 (pB key)]] w fun e w' => e = .returned (.int .i64 (S.ks.length : Int)) ∧ ∃ kv' rv', LRep w' p bm kv' rv' iv (S.add key) ∧ Chg (LU p bm kv rv iv) w w' ∧ LLoc w p bm kv rv iv kv' rv' iv := by
  obtain ⟨i0, hi, hz0, hz1, hz2⟩ := info_parts info_int
  obtain ⟨i1, hj, hy0, hy1, hy2⟩ := spot_parts info_spot
  have h16 := hS.s2
  have hl16 : S.ks.length < 16 := by omega
  have hrs16 : S.rs.length < 16 := by rw [hS.rl]; exact hl16
  have hkey := keyS hk
  have hxb := (Below.refl w.heap.size w).alloc (Nat.le_refl _) (.cells #[.int .i64 (pA key), .int .u8 (pB key)] 34)
  have hx : LRep (w.alloc (.cells #[.int .i64 (pA key), .int .u8 (pB key)] 34)) p bm kv rv iv S := h.below hxb
  have hxc : Chg (LU p bm kv rv iv) w (w.alloc (.cells #[.int .i64 (pA key), .int .u8 (pB key)] 34)) := Chg.ofBelow hxb
  have hbx := Go.heap_alloc_new w (.cells #[.int .i64 (pA key), .int .u8 (pB key)] 34)
  have hbm := h.mp.lt
  obtain ⟨D, ho, hDs, hD1, hD2⟩ := hx.mp
  rw [hS.me] at hDs hD1 hD2
  have hv : plainElem (H := Unit) Try.prog 3 (.int .i64 (S.ks.length : Int)) = some (.lit (.int .i64 (S.ks.length : Int)), []) := plainElem_int Try.underlying3 (wf_i64 ⟨by omega, by omega⟩)
  have HMAP : Hid (∀ w1, w1.ownsMap Try.prog 34 (plainElem Try.prog 3) bm (16 + 1) (D.put (kL key) (.lit (.int .i64 (S.ks.length : Int)))) → (w.alloc (.cells #[.int .i64 (pA key), .int .u8 (pB key)] 34)).grownBy w1 (some bm) → LRep w1 p bm kv rv iv { S with mks := S.ks ++ [key] } ∧ Chg (LU p bm kv rv iv) w w1 ∧ w1.heap[w.heap.size]? = some (.cells #[.int .i64 (pA key), .int .u8 (pB key)] 34 (0, 0))) := hide fun w1 q1 q2 => by
    obtain ⟨z1, z2⟩ := hx.turnM (MP.put (w := w) hDs hD1 hD2 (ho.tidy kStr) hn hl16 q1) q2
    exact ⟨z1, hxc.trans z2, (q2.block _ (by simp) (fun e => by have := Option.some.inj e; omega)).trans hbx⟩
  have c1 : (w.alloc (.cells #[.int .i64 (pA key), .int .u8 (pB key)] 34)).cell? ⟨p, 1, none⟩ = some (.map (some bm)) := hx.c 1
  have b0 : (w.alloc (.cells #[.int .i64 (pA key), .int .u8 (pB key)] 34)).cell? ⟨w.heap.size, 0, none⟩ = some (.int .i64 (pA key)) := by rw [cell_of_row _ _ _ _ _ _ hbx]; rfl
  have b1 : (w.alloc (.cells #[.int .i64 (pA key), .int .u8 (pB key)] 34)).cell? ⟨w.heap.size, 1, none⟩ = some (.int .u8 (pB key)) := by rw [cell_of_row _ _ _ _ _ _ hbx]; rfl
  obtain ⟨ak, ck, ekv, hk1, hk2⟩ := rowForm h.ko
  obtain ⟨ar, cr, erv, hr1, hr2⟩ := rowForm h.ro
  subst ekv erv
  have c2 : (w.alloc (.cells #[.int .i64 (pA key), .int .u8 (pB key)] 34)).cell? ⟨p, 2, none⟩ = some (.slice ak S.ks.length ck) := hx.c 2
  unfold maxLen at hk2 hr2
  clear h hk hn hD1 hD2 hDs hS hx hxc hxb hbx
  go_enter Try.func56, Try.ntmps56
  go_wp2_with fail
  refine wp_region_held_drew (S := fun z => z.cell? ⟨w.heap.size, 0, none⟩ = some (.int .i64 (pA key)) ∧ z.cell? ⟨w.heap.size, 1, none⟩ = some (.int .u8 (pB key)) ∧ z.cell? ⟨p, 1, none⟩ = some (.map (some bm))) (by kernel_rfl) ⟨b0, b1, c1⟩ (fun hHeld => ?_)
  refine wpAnyH_take (i := 0) (v := .pointer (some ⟨p, 0, none⟩)) rfl (by kernel_rfl) (by kernel_rfl) (by kernel_rfl) (fun _ _ _ h => h) (Or.inl ⟨by rfl, ?h0⟩) hHeld ?r0
  case h0 => intro w' hSw; obtain ⟨e0, e1, e2⟩ := hSw; go_simp; (try with_reducible rfl)
  (try simp only [Act.put, List.getElem_toArray, List.getElem_cons_succ, List.getElem_cons_zero, List.setIfInBounds_toArray, List.set_cons_zero, List.set_cons_succ])
  refine wpAnyH_take (i := 1) (v := .pointer (some ⟨p, 0, none⟩)) rfl (by kernel_rfl) (by kernel_rfl) (by kernel_rfl) (fun _ _ _ h => h) (Or.inl ⟨by rfl, ?h1⟩) hHeld ?r1
  case h1 => intro w' hSw; obtain ⟨e0, e1, e2⟩ := hSw; go_simp; (try with_reducible rfl)
  (try simp only [Act.put, List.getElem_toArray, List.getElem_cons_succ, List.getElem_cons_zero, List.setIfInBounds_toArray, List.set_cons_zero, List.set_cons_succ])
  refine wpAnyH_take (i := 2) (v := .pointer (some ⟨p, 1, none⟩)) rfl (by kernel_rfl) (by kernel_rfl) (by kernel_rfl) (fun _ _ _ h => h) (Or.inl ⟨by rfl, ?h2⟩) hHeld ?r2
  case h2 => intro w' hSw; obtain ⟨e0, e1, e2⟩ := hSw; go_simp; (try with_reducible rfl)
  (try simp only [Act.put, List.getElem_toArray, List.getElem_cons_succ, List.getElem_cons_zero, List.setIfInBounds_toArray, List.set_cons_zero, List.set_cons_succ])
  refine wpAnyH_take (i := 3) (v := .map (some bm)) rfl (by kernel_rfl) (by kernel_rfl) (by kernel_rfl) (fun _ _ _ h => h) (Or.inl ⟨by rfl, ?h3⟩) hHeld ?r3
  case h3 => intro w' hSw; obtain ⟨e0, e1, e2⟩ := hSw; go_simp; (try with_reducible rfl)
  (try simp only [Act.put, List.getElem_toArray, List.getElem_cons_succ, List.getElem_cons_zero, List.setIfInBounds_toArray, List.set_cons_zero, List.set_cons_succ])
  refine wpAnyH_take (i := 4) (v := .agg #[.int .i64 (pA key), .int .u8 (pB key)]) rfl (by kernel_rfl) (by kernel_rfl) (by kernel_rfl) (fun _ _ _ h => h) (Or.inl ⟨by rfl, ?h4⟩) hHeld ?r4
  case h4 => intro w' hSw; obtain ⟨e0, e1, e2⟩ := hSw; go_simp; (try with_reducible rfl)
  (try simp only [Act.put, List.getElem_toArray, List.getElem_cons_succ, List.getElem_cons_zero, List.setIfInBounds_toArray, List.set_cons_zero, List.set_cons_succ])
  refine wpAnyH_take (i := 5) (v := .int .i64 (S.ks.length : Int)) rfl (by kernel_rfl) (by kernel_rfl) (by kernel_rfl) (fun _ _ _ h => h) (Or.inl ⟨by rfl, ?h5⟩) hHeld ?r5
  case h5 => intro w' hSw; obtain ⟨e0, e1, e2⟩ := hSw; go_simp; (try with_reducible rfl)
  (try simp only [Act.put, List.getElem_toArray, List.getElem_cons_succ, List.getElem_cons_zero, List.setIfInBounds_toArray, List.set_cons_zero, List.set_cons_succ])
  refine wpAnyH_ready (rs := [6]) (by kernel_rfl) (by simp) ?_
  refine AllReadyH.one_map (o := ?o) ?ho ?hw (.tmp 14) (.tmp 15) (.tmp 16) 75 ?hop 34 3 kStr Try.underlying75 (plainElem Try.prog 3) bm 16 D ?hm ho (by decide) _ _ (kL key) ?hx ?hv hkey (.lit (.int .i64 (S.ks.length : Int))) [] hv ?h
  case ho => exact rfl
  case hw => kernel_rfl
  case hop => kernel_rfl
  case hm => kernel_rfl
  case hx => kernel_rfl
  case hv => kernel_rfl
  case h =>
  intro w1 q1 q2
  obtain ⟨r1, r2, r3⟩ := HMAP.out w1 q1 ⟨q2.os, q2.tape, q2.output, q2.size, q2.block⟩
  have d0 : w1.cell? ⟨w.heap.size, 0, none⟩ = some (.int .i64 (pA key)) := by rw [cell_of_row _ _ _ _ _ _ r3]; rfl
  have d1 : w1.cell? ⟨w.heap.size, 1, none⟩ = some (.int .u8 (pB key)) := by rw [cell_of_row _ _ _ _ _ _ r3]; rfl
  refine ⟨⟨d0, d1, r1.c 1⟩, ?_⟩
  refine wpAnyH_done ?hr ?hq _
  case hr => kernel_rfl
  case hq =>
  simp only [Act.put, List.getElem_toArray, List.getElem_cons_succ, List.getElem_cons_zero, List.setIfInBounds_toArray, List.set_cons_zero, List.set_cons_succ]
  have HR1 := hide r1
  have HC1 := hide r2
  clear q1 q2 r1 r2 r3 HMAP c1 b0 b1 c2 hHeld
  have c2 : w1.cell? ⟨p, 2, none⟩ = some (.slice ak S.ks.length ck) := HR1.out.c 2
  have o2 := hide (show (w1.alloc (.cells #[.int .i64 (pA key), .int .u8 (pB key)] 34)).ownsRow 0 34 2 (.slice ak S.ks.length ck) S.ks.length (S.ks.flatMap pC) from HR1.out.ko.alloc _)
  have c2b : (w1.alloc (.cells #[.int .i64 (pA key), .int .u8 (pB key)] 34)).cell? ⟨p, 2, none⟩ = some (.slice ak S.ks.length ck) := (HR1.out.below ((Below.refl _ _).alloc (Nat.le_refl _) _)).c 2
  go_wp2_with fail
  go_region_law (refine step_appendC rfl (.tmp 21) (.tmp 23) 76 rfl 34 i1 (.agg #[.int .i64 0, .int .u8 0]) 2 16 Try.underlying76 hj hy0 hy1 hy2 rfl (by decide) _ _ _ rfl o2.out ⟨w1.heap.size, 0, none⟩ 1 1 (pC key) rfl rfl (by decide) (cell_two_new _ _ _ _) (by simp [pC, Value.oneCell']) (by unfold maxLen; omega) (by omega) ?_; intro kv' w2 ho2 hup2; obtain ⟨g2, cap2, e2⟩ := slForm2 ho2; subst e2; have hu2 : Upon (w1.alloc (.cells #[.int .i64 (pA key), .int .u8 (pB key)] 34)) w2 (.slice ak S.ks.length ck) (.slice (some ⟨g2, 0, none⟩) (S.ks.length + 1) cap2) := upon_drew hup2; have HPK := hide (LRep.pushK (S := { S with mks := S.ks ++ [key] }) HR1.out ho2 hu2); have d2 := HPK.out.2.1; have f2 := HPK.out.2.2.1; clear ho2 hup2 hu2)
  all_goals
    obtain ⟨p1, -, -, p2, p3⟩ := HPK.out
    clear d2 f2
    have HR2 := hide p1
    have HC2 := hide (HC1.out.trans p2)
    have hsz1 := HC1.out.size
    have HL2 : Hid (∀ b, (Value.slice (some ⟨g2, 0, none⟩) (S.ks.length + 1) cap2).ownBlock = some b → (Value.slice ak S.ks.length ck).ownBlock = some b ∨ w.heap.size ≤ b) := hide fun b e => (p3 b e).imp id fun e => by omega
    clear p1 p2 p3 o2 c2b c2 HR1 HC1 HPK d0 d1
    generalize hW3 : w2.setCell ⟨p, 2, none⟩ (.slice (some ⟨g2, 0, none⟩) (S.ks.length + 1) cap2) = w3 at *
    have HW3 := hide hW3
    clear hW3
    have c3 : w3.cell? ⟨p, 3, none⟩ = some (.slice ar S.rs.length cr) := HR2.out.c 3
    have o3 : (w3.alloc (.cells #[.int .i64 1] 3)).ownsRow 0 3 1 (.slice ar S.rs.length cr) S.rs.length (S.rs.map nV) := HR2.out.ro.alloc _
    have c3b : (w3.alloc (.cells #[.int .i64 1] 3)).cell? ⟨p, 3, none⟩ = some (.slice ar S.rs.length cr) := (HR2.out.below ((Below.refl _ _).alloc (Nat.le_refl _) _)).c 3
    go_wp2_with (first
      | (at_builtin; refine wpList_append1 _ rfl (.tmp 31) (.tmp 32) 67 rfl 3 i0 (.int .i64 0) 8 Try.underlying67 hi hz0 hz1 hz2 rfl _ _ _ rfl o3 ⟨w3.heap.size, 0, none⟩ 1 (.int .i64 1) rfl (cell_one_new _ _ _) rfl (by unfold maxLen; omega) (by omega) ?_)
      | (rw [HW3.out]))
    intro rv' w4 ho4 hup4
    obtain ⟨g4, cap4, e4⟩ := slForm ho4
    subst e4
    have hu4 : Upon (w3.alloc (.cells #[.int .i64 1] 3)) w4 (.slice ar S.rs.length cr) (.slice (some ⟨g4, 0, none⟩) (S.rs.length + 1) cap4) := by unfold Upon; rw [World.size_alloc]; exact hup4
    obtain ⟨p1, d4, f4, p2, p3⟩ := LRep.pushR (S := { S with mks := S.ks ++ [key], ks := S.ks ++ [key] }) (r := 1) HR2.out ho4 hu4
    have hs3 := HC2.out.size
    have HFIN : Hid (LRep (w4.setCell ⟨p, 3, none⟩ (.slice (some ⟨g4, 0, none⟩) (S.rs.length + 1) cap4)) p bm (.slice (some ⟨g2, 0, none⟩) (S.ks.length + 1) cap2) (.slice (some ⟨g4, 0, none⟩) (S.rs.length + 1) cap4) iv (S.add key) ∧ Chg (LU p bm (.slice ak S.ks.length ck) (.slice ar S.rs.length cr) iv) w (w4.setCell ⟨p, 3, none⟩ (.slice (some ⟨g4, 0, none⟩) (S.rs.length + 1) cap4)) ∧ LLoc w p bm (.slice ak S.ks.length ck) (.slice ar S.rs.length cr) iv (.slice (some ⟨g2, 0, none⟩) (S.ks.length + 1) cap2) (.slice (some ⟨g4, 0, none⟩) (S.rs.length + 1) cap4) iv) := hide ⟨p1, ⟨p2.os.trans HC2.out.os, p2.tape.trans HC2.out.tape, p2.output.trans HC2.out.output, Nat.le_trans hs3 p2.size, fun b hb hn => (p2.keep b (by omega) (by
        rintro (e | e | e | e | e)
        · exact hn (.inl e)
        · exact hn (.inr (.inl e))
        · rcases HL2.out b e with e | e
          · exact hn (.inr (.inr (.inl e)))
          · omega
        · exact hn (.inr (.inr (.inr (.inl e))))
        · exact hn (.inr (.inr (.inr (.inr e)))))).trans (HC2.out.keep b hb hn)⟩, by
        rintro b (e | e | e | e | e)
        · exact .inl (.inl e)
        · exact .inl (.inr (.inl e))
        · exact (HL2.out b e).imp (fun e => .inr (.inr (.inl e))) id
        · exact (p3 b e).imp (fun e => .inr (.inr (.inr (.inl e)))) fun e => by omega
        · exact .inl (.inr (.inr (.inr (.inr e))))⟩
    clear ho4 hup4 hu4 p1 p2 p3 o3 c3b c3 HR2 HC2
    go_wp2_with fail
    go_ret
    exact ⟨rfl, _, _, HFIN.out.1, HFIN.out.2.1, HFIN.out.2.2⟩
end Go.Proofs.Ythkkinmegileaaa.Sp
