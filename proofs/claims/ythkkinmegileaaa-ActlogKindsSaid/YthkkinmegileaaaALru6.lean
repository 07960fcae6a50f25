import Derived.Test.YthkkinmegileaaaALru5
namespace Go.Proofs.Ythkkinmegileaaa
open Go.RowKit Go.Sort
set_option linter.unusedVariables false
set_option linter.unusedSimpArgs false
set_option maxRecDepth 20000

theorem info_int : (Try.prog.info? 3).map (fun i => (i.zero, i.size, i.bytes)) = some (some (.int .i64 0), 1, 8) := by kernel_rfl
theorem slForm {w : World} {e : TypeId} {v : Value} {n : Nat} {xs : List Value} (h : w.ownsRow 0 e 1 v (n + 1) xs) : ∃ g cap, v = .slice (some ⟨g, 0, none⟩) (n + 1) cap := by
  rcases h.2 with ⟨_, e⟩ | ⟨g, cap, _, e, _⟩
  · omega
  · exact ⟨g, cap, e⟩
/-- where the Lru's blocks lie behind a call -/
def LLoc (w : World) (p bm : Nat) (kv rv iv kv' rv' iv' : Value) : Prop := ∀ b, LU p bm kv' rv' iv' b → LU p bm kv rv iv b ∨ w.heap.size ≤ b
set_option maxHeartbeats 2000000 in
/-- a key more -/
theorem add_any {w : World} {p bm : Nat} {kv rv iv : Value} {S : LS} {M : Nat} {key : Int} (h : LRep w p bm kv rv iv S) (hS : S.Ok M) (hk : i64ok key) (hn : key ∉ S.ks) (hl : S.ks.length < S.slots) :
    Calls Try.prog 78 #[.pointer (some ⟨p, 0, none⟩), .int .i64 key] w fun e w' => e = .returned (.int .i64 (S.ks.length : Int)) ∧ ∃ kv' rv', LRep w' p bm kv' rv' iv (S.add key) ∧ Chg (LU p bm kv rv iv) w w' ∧ LLoc w p bm kv rv iv kv' rv' iv := by
  obtain ⟨i0, hi, hz0, hz1, hz2⟩ := info_parts info_int
  have h16 := hS.s2
  have hl16 : S.ks.length < 16 := by omega
  have hrs16 : S.rs.length < 16 := by rw [hS.rl]; exact hl16
  have hkey := keyI hk
  obtain ⟨D, ho, hDs, hD1, hD2⟩ := h.mp
  rw [hS.me] at hDs hD1 hD2
  have hv : plainElem (H := Unit) Try.prog 3 (.int .i64 (S.ks.length : Int)) = some (.lit (.int .i64 (S.ks.length : Int)), []) := plainElem_int Try.underlying3 (wf_i64 ⟨by omega, by omega⟩)
  have HMAP : Hid (∀ w1, w1.ownsMap Try.prog 3 (plainElem Try.prog 3) bm (16 + 1) (D.put (kL key) (.lit (.int .i64 (S.ks.length : Int)))) → w.grownBy w1 (some bm) → LRep w1 p bm kv rv iv { S with mks := S.ks ++ [key] } ∧ Chg (LU p bm kv rv iv) w w1) := hide fun w1 q1 q2 => h.turnM (MP.put (w := w) hDs hD1 hD2 (ho.tidy kInt) hn hl16 q1) q2
  have c1 : w.cell? ⟨p, 1, none⟩ = some (.map (some bm)) := h.c 1
  obtain ⟨ak, ck, ekv, hk1, hk2⟩ := rowForm h.ko
  obtain ⟨ar, cr, erv, hr1, hr2⟩ := rowForm h.ro
  subst ekv erv
  have c2 : w.cell? ⟨p, 2, none⟩ = some (.slice ak S.ks.length ck) := h.c 2
  unfold maxLen at hk2 hr2
  clear h hk hn hD1 hD2 hDs hS
  go_enter Try.func78, Try.ntmps78
  go_wp2_with (at_mapUpdate; refine wpList_mapUpdate_own _ rfl _ _ _ 118 rfl 3 3 kInt Try.underlying118 _ bm 16 D rfl ho (by decide) _ _ (kL key) rfl rfl hkey (.lit (.int .i64 (S.ks.length : Int))) [] hv ?_)
  intro w1 q1 q2
  obtain ⟨r1, r2⟩ := HMAP.out w1 q1 q2
  have HR1 := hide r1
  have HC1 := hide r2
  clear q1 q2 r1 r2 HMAP
  have c2 : w1.cell? ⟨p, 2, none⟩ = some (.slice ak S.ks.length ck) := HR1.out.c 2
  have o2 : (w1.alloc (.cells #[.int .i64 key] 3)).ownsRow 0 3 1 (.slice ak S.ks.length ck) S.ks.length (S.ks.map iV) := HR1.out.ko.alloc _
  have c2b : (w1.alloc (.cells #[.int .i64 key] 3)).cell? ⟨p, 2, none⟩ = some (.slice ak S.ks.length ck) := (HR1.out.below ((Below.refl _ _).alloc (Nat.le_refl _) _)).c 2
  go_wp2_with (at_builtin; refine wpList_append1 _ rfl (.tmp 21) (.tmp 23) 67 rfl 3 i0 (.int .i64 0) 8 Try.underlying67 hi hz0 hz1 hz2 rfl _ _ _ rfl o2 ⟨w1.heap.size, 0, none⟩ 1 (.int .i64 key) rfl (cell_one_new _ _ _) rfl (by unfold maxLen; omega) (by omega) ?_)
  intro kv' w2 ho2 hup2
  obtain ⟨g2, cap2, e2⟩ := slForm ho2
  subst e2
  have hu2 : Upon (w1.alloc (.cells #[.int .i64 key] 3)) w2 (.slice ak S.ks.length ck) (.slice (some ⟨g2, 0, none⟩) (S.ks.length + 1) cap2) := by unfold Upon; rw [World.size_alloc]; exact hup2
  obtain ⟨p1, d2, f2, p2, p3⟩ := LRep.pushK (S := { S with mks := S.ks ++ [key] }) HR1.out ho2 hu2
  have HR2 := hide p1
  have HC2 := hide (HC1.out.trans p2)
  have hsz1 := HC1.out.size
  have HL2 : Hid (∀ b, (Value.slice (some ⟨g2, 0, none⟩) (S.ks.length + 1) cap2).ownBlock = some b → (Value.slice ak S.ks.length ck).ownBlock = some b ∨ w.heap.size ≤ b) := hide fun b e => (p3 b e).imp id fun e => by omega
  clear ho2 hup2 hu2 p1 p2 p3 o2 c2b c2 HR1 HC1
  generalize hW3 : w2.setCell ⟨p, 2, none⟩ (.slice (some ⟨g2, 0, none⟩) (S.ks.length + 1) cap2) = w3 at *
  have HW3 := hide hW3
  clear hW3
  have c3 : w3.cell? ⟨p, 3, none⟩ = some (.slice ar S.rs.length cr) := HR2.out.c 3
  have o3 : (w3.alloc (.cells #[.int .i64 1] 3)).ownsRow 0 3 1 (.slice ar S.rs.length cr) S.rs.length (S.rs.map nV) := HR2.out.ro.alloc _
  have c3b : (w3.alloc (.cells #[.int .i64 1] 3)).cell? ⟨p, 3, none⟩ = some (.slice ar S.rs.length cr) := (HR2.out.below ((Below.refl _ _).alloc (Nat.le_refl _) _)).c 3
  go_wp2_with (first
    | (at_builtin; refine wpList_append1 _ rfl (.tmp 31) (.tmp 32) 67 rfl 3 i0 (.int .i64 0) 8 Try.underlying67 hi hz0 hz1 hz2 rfl _ _ _ rfl o3 ⟨w3.heap.size, 0, none⟩ 1 (.int .i64 1) rfl (cell_one_new _ _ _) rfl (by unfold maxLen; omega) (by omega) ?_)
    | (rw [HW3.out]))
  intro rv' w4 ho4 hup4
  obtain ⟨g4, cap4, e4⟩ := slForm ho4
  subst e4
  have hu4 : Upon (w3.alloc (.cells #[.int .i64 1] 3)) w4 (.slice ar S.rs.length cr) (.slice (some ⟨g4, 0, none⟩) (S.rs.length + 1) cap4) := by unfold Upon; rw [World.size_alloc]; exact hup4
  obtain ⟨p1, d4, f4, p2, p3⟩ := LRep.pushR (S := { S with mks := S.ks ++ [key], ks := S.ks ++ [key] }) (r := 1) HR2.out ho4 hu4
  have hs3 := HC2.out.size
  have HFIN : Hid (LRep (w4.setCell ⟨p, 3, none⟩ (.slice (some ⟨g4, 0, none⟩) (S.rs.length + 1) cap4)) p bm (.slice (some ⟨g2, 0, none⟩) (S.ks.length + 1) cap2) (.slice (some ⟨g4, 0, none⟩) (S.rs.length + 1) cap4) iv (S.add key) ∧ Chg (LU p bm (.slice ak S.ks.length ck) (.slice ar S.rs.length cr) iv) w (w4.setCell ⟨p, 3, none⟩ (.slice (some ⟨g4, 0, none⟩) (S.rs.length + 1) cap4)) ∧ LLoc w p bm (.slice ak S.ks.length ck) (.slice ar S.rs.length cr) iv (.slice (some ⟨g2, 0, none⟩) (S.ks.length + 1) cap2) (.slice (some ⟨g4, 0, none⟩) (S.rs.length + 1) cap4) iv) := hide ⟨p1, ⟨p2.os.trans HC2.out.os, p2.tape.trans HC2.out.tape, p2.output.trans HC2.out.output, Nat.le_trans hs3 p2.size, fun b hb hn => (p2.keep b (by omega) (by
      rintro (e | e | e | e | e)
      · exact hn (.inl e)
      · exact hn (.inr (.inl e))
      · rcases HL2.out b e with e | e
        · exact hn (.inr (.inr (.inl e)))
        · omega
      · exact hn (.inr (.inr (.inr (.inl e))))
      · exact hn (.inr (.inr (.inr (.inr e)))))).trans (HC2.out.keep b hb hn)⟩, by
      rintro b (e | e | e | e | e)
      · exact .inl (.inl e)
      · exact .inl (.inr (.inl e))
      · exact (HL2.out b e).imp (fun e => .inr (.inr (.inl e))) id
      · exact (p3 b e).imp (fun e => .inr (.inr (.inr (.inl e)))) fun e => by omega
      · exact .inl (.inr (.inr (.inr (.inr e))))⟩
  clear ho4 hup4 hu4 p1 p2 p3 o3 c3b c3 HR2 HC2
  go_wp2_with fail
  go_ret
  exact ⟨rfl, _, _, HFIN.out.1, HFIN.out.2.1, HFIN.out.2.2⟩
end Go.Proofs.Ythkkinmegileaaa
