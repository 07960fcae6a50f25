import Derived.Test.YtcjilmafdpnfeaaDoorWSum2
namespace Go.Proofs.YtcjilmafdpnfeaaDoor
open Go.RowKit
set_option linter.unusedVariables false
set_option linter.unusedSimpArgs false
set_option maxRecDepth 20000

theorem Oth.trans {rb : Nat} {w x y : World} (h : Oth rb w x) (h2 : Oth rb x y) : Oth rb w y := ⟨h2.os.trans h.os, h2.tape.trans h.tape, h2.output.trans h.output, Nat.le_trans h.size h2.size, fun j a b => (h2.block j (Nat.lt_of_lt_of_le a h.size) b).trans (h.block j a b)⟩
theorem Oth.ofBelow {rb : Nat} {w x : World} (hb : Below w.heap.size w x) : Oth rb w x := (Oth.refl rb w).below hb
theorem BTab.oth {rb : Nat} {w x : World} (h : BTab w) (ho : Oth rb w x) (hne : 0 ≠ rb) : BTab x := fun n hn => by
  obtain ⟨h0, h1, h2⟩ := h n hn
  have hl := World.block_lt_of_cell? w _ h0
  exact ⟨(World.cell?_of_block (ho.block 0 hl hne)).trans h0, (World.cell?_of_block (ho.block 0 hl hne)).trans h1, (World.cell?_of_block (ho.block 0 hl hne)).trans h2⟩
theorem PM.oth {rb : Nat} {w x : World} {pb : Nat} {p : PV} {v : Value} (h : PM w pb p v) (ho : Oth rb w x) (hne : pb ≠ rb) (hv : v.ownBlock ≠ some rb) : PM x pb p v := by
  refine ⟨(ho.block pb h.lt hne).trans h.row, h.ok, ?_, h.ne⟩
  obtain ⟨a, cap, rfl, h1, h2, h3, h4, h5⟩ := h.dat
  refine ⟨a, cap, rfl, h1, h2, h3, h4, fun hp => ?_⟩
  obtain ⟨b, off, rfl, hc⟩ := h5 hp
  refine ⟨b, off, rfl, fun i hi => ?_⟩
  have := hc i hi
  exact (World.cell?_of_block (ho.block b (World.block_lt_of_cell? w _ this) (fun e => hv (by simp [Value.ownBlock, e])))).trans this

theorem bsl_nil (w : World) : BSl w (.slice none 0 0) [] := ⟨none, 0, rfl, Nat.le_refl _, Nat.zero_le _, fun _ => rfl, by simp, fun h => absurd h (by simp)⟩
/-- lists of fields in memory -/
theorem FL.at {w : World} {v : Value} {fs : List Fd} (h : FL w v (fs.map Fd.val)) : (fs = [] ∧ v = .slice none 0 0) ∨ ∃ b, v = .slice (some ⟨b, 0, none⟩) fs.length fs.length ∧ ∀ k f, fs[k]? = some f → w.cell? ⟨b, k, none⟩ = some f.val := by
  rcases h with ⟨h1, h2⟩ | ⟨b, h1, h2⟩
  · exact .inl ⟨by simpa using h1, h2⟩
  · refine .inr ⟨b, by simpa using h1, fun k f hk => ?_⟩
    rw [cell_of_row _ _ _ _ _ _ h2]
    simp [hk]
end Go.Proofs.YtcjilmafdpnfeaaDoor
