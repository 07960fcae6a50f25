import Derived.Test.YtedhohamdbplhaaDoorWSum2
namespace Go.Proofs.YtedhohamdbplhaaDoor
open Go.RowKit
set_option linter.unusedVariables false
set_option linter.unusedSimpArgs false
set_option maxRecDepth 20000

theorem Oth.trans {rb : Nat} {w x y : World} (h : Oth rb w x) (h2 : Oth rb x y) : Oth rb w y := ⟨h2.os.trans h.os, h2.tape.trans h.tape, h2.output.trans h.output, Nat.le_trans h.size h2.size, fun j a b => (h2.block j (Nat.lt_of_lt_of_le a h.size) b).trans (h.block j a b)⟩
theorem Oth.ofBelow {rb : Nat} {w x : World} (hb : Below w.heap.size w x) : Oth rb w x := (Oth.refl rb w).below hb
theorem BTab.oth {rb : Nat} {w x : World} (h : BTab w) (ho : Oth rb w x) (hne : 0 ≠ rb) : BTab x := fun n hn => by
  obtain ⟨h0, h1, h2⟩ := h n hn
  have hl := World.block_lt_of_cell? w _ h0
  exact ⟨(World.cell?_of_block (ho.block 0 hl hne)).trans h0, (World.cell?_of_block (ho.block 0 hl hne)).trans h1, (World.cell?_of_block (ho.block 0 hl hne)).trans h2⟩
theorem PM.oth {rb : Nat} {w x : World} {pb : Nat} {p : PV} {v : Value} (h : PM w pb p v) (ho : Oth rb w x) (hne : pb ≠ rb) (hv : v.ownBlock ≠ some rb) : PM x pb p v := by
  refine ⟨(ho.block pb h.lt hne).trans h.row, h.ok, ?_, h.ne⟩
  obtain ⟨a, cap, rfl, h1, h2, h3, h4, h5⟩ := h.dat
  refine ⟨a, cap, rfl, h1, h2, h3, h4, fun hp => ?_⟩
  obtain ⟨b, off, rfl, hc⟩ := h5 hp
  refine ⟨b, off, rfl, fun i hi => ?_⟩
  have := hc i hi
  exact (World.cell?_of_block (ho.block b (World.block_lt_of_cell? w _ this) (fun e => hv (by simp [Value.ownBlock, e])))).trans this

theorem num_fits (w : World) (n pb : Nat) (p : PV) (v : Value) (hT : BTab w) (h : PM w pb p v) (hn : n < 18) :
    Calls Tryd.prog 98 #[.int .i64 (n : Int), .pointer (some ⟨pb, 0, none⟩)] w fun e' w' => e' = .returned (.bool (fitF p (.num n))) ∧ Below w.heap.size w w' :=
  nfits_any w n pb p.a p.b p.c p.d p.e hT h.five hn h.ok.a h.ok.b (h.ok.get _)
theorem dat_fits (w : World) (lo hi : Nat) (tied : Bool) (pb : Nat) (p : PV) (v : Value) (h : PM w pb p v) (hlo : lo < 65536) (hhi : hi < 65536) :
    Calls Tryd.prog 100 #[.agg #[.int .u64 (lo : Int), .int .u64 (hi : Int), .bool tied], .pointer (some ⟨pb, 0, none⟩)] w fun e' w' => e' = .returned (.bool (fitF p (.dat lo hi tied))) ∧ Below w.heap.size w w' := by
  obtain ⟨a, cap, hv, h1, h2, h3, h4, h5⟩ := h.dat
  have hd := h.dcell
  rw [hv] at hd
  exact dfits_any w lo hi tied pb p.a p.b p.c p.d p.e a p.dl.length cap h.five hd (by omega) (by omega) h1 h2
theorem num_blank (w : World) (n pb : Nat) (p : PV) (v : Value) (hT : BTab w) (h : PM w pb p v) (hn : n < 18) :
    Calls Tryd.prog 97 #[.int .i64 (n : Int), .pointer (some ⟨pb, 0, none⟩)] w fun e' w' => e' = .returned (.tuple #[]) ∧ ∃ v', PM w' pb (blankF p (.num n)) v' ∧ Oth pb w w' ∧ (v' = v ∨ v' = .slice none 0 0) := by
  refine (nblank_any w n pb p.a p.b p.c p.d p.e hT h.five hn h.fz).mono ?_
  rintro e' w' ⟨rfl, k, rfl⟩
  have hb : Below w.heap.size w (w.drewN k) := bel_drewN (Below.refl _ _) k
  exact ⟨rfl, v, (h.below hb).setN _ 0 (bnd_lt n hn).1 (by decide), ((Oth.refl pb w).drewN k).set _ _, .inl rfl⟩
theorem ids_blank (w : World) (pb : Nat) (p : PV) (v : Value) (h : PM w pb p v) :
    Calls Tryd.prog 103 #[.agg #[], .pointer (some ⟨pb, 0, none⟩)] w fun e' w' => e' = .returned (.tuple #[]) ∧ ∃ v', PM w' pb (blankF p .ids) v' ∧ Oth pb w w' ∧ (v' = v ∨ v' = .slice none 0 0) := by
  obtain ⟨k5, k6, k7, k8⟩ := h.gens
  refine (iblank_any w pb p.g0 p.g1 p.g2 p.g3 k5 k6 k7 k8 h.fz).mono ?_
  rintro e' w' ⟨rfl, rfl⟩
  have hb := (Below.refl w.heap.size w).alloc (Nat.le_refl _) (.cells #[] 98)
  exact ⟨rfl, v, (h.below hb).setG 0 0 0 0 (by decide) (by decide) (by decide) (by decide), (((((Oth.refl pb w).below hb).set 5 _).set 6 _).set 7 _).set 8 _, .inl rfl⟩
theorem sum_blank (w : World) (tied : Bool) (pb : Nat) (p : PV) (v : Value) (h : PM w pb p v) :
    Calls Tryd.prog 101 #[.agg #[.bool tied], .pointer (some ⟨pb, 0, none⟩)] w fun e' w' => e' = .returned (.tuple #[]) ∧ ∃ v', PM w' pb (blankF p (.sum tied)) v' ∧ Oth pb w w' ∧ (v' = v ∨ v' = .slice none 0 0) := by
  refine (sblank_any w tied pb p v h).mono ?_
  rintro e' w' ⟨rfl, h1, h2⟩
  exact ⟨rfl, v, h1, h2, .inl rfl⟩
theorem bsl_nil (w : World) : BSl w (.slice none 0 0) [] := ⟨none, 0, rfl, Nat.le_refl _, Nat.zero_le _, fun _ => rfl, by simp, fun h => absurd h (by simp)⟩
theorem dat_blank (w : World) (lo hi : Nat) (tied : Bool) (pb : Nat) (p : PV) (v : Value) (h : PM w pb p v) :
    Calls Tryd.prog 99 #[.agg #[.int .u64 (lo : Int), .int .u64 (hi : Int), .bool tied], .pointer (some ⟨pb, 0, none⟩)] w fun e' w' => e' = .returned (.tuple #[]) ∧ ∃ v', PM w' pb (blankF p (.dat lo hi tied)) v' ∧ Oth pb w w' ∧ (v' = v ∨ v' = .slice none 0 0) := by
  obtain ⟨a, cap, hv, h1, h2, h3, h4, h5⟩ := h.dat
  have hd := h.dcell
  rw [hv] at hd
  refine (dblank_any w (lo : Int) (hi : Int) tied pb a p.dl.length cap hd (h.fz _)).mono ?_
  rintro e' w' ⟨rfl, rfl⟩
  have hb := (Below.refl w.heap.size w).alloc (Nat.le_refl _) (.cells #[.int .u64 (lo : Int), .int .u64 (hi : Int), .bool tied] 94)
  exact ⟨rfl, .slice none 0 0, (h.below hb).setD (.slice none 0 0) [] (bsl_nil _) (by simp [Value.ownBlock]), ((Oth.refl pb w).below hb).set 41 _, .inr rfl⟩

/-- lists of fields in memory -/
theorem FL.at {w : World} {v : Value} {fs : List Fd} (h : FL w v (fs.map Fd.val)) : (fs = [] ∧ v = .slice none 0 0) ∨ ∃ b, v = .slice (some ⟨b, 0, none⟩) fs.length fs.length ∧ ∀ k f, fs[k]? = some f → w.cell? ⟨b, k, none⟩ = some f.val := by
  rcases h with ⟨h1, h2⟩ | ⟨b, h1, h2⟩
  · exact .inl ⟨by simpa using h1, h2⟩
  · refine .inr ⟨b, by simpa using h1, fun k f hk => ?_⟩
    rw [cell_of_row _ _ _ _ _ _ h2]
    simp [hk]
end Go.Proofs.YtedhohamdbplhaaDoor
