import Derived.Test.YtnjlbkbhlcccmaaDoorBSettle
import Derived.Test.YtnjlbkbhlcccmaaDoorBMadeG
import Derived.Test.YtnjlbkbhlcccmaaDoorBKeepA
namespace Go.Proofs.YtnjlbkbhlcccmaaDoor
open Go.RowKit Go.Shelf
set_option linter.unusedVariables false
set_option linter.unusedSimpArgs false
set_option maxRecDepth 20000

/-- what a step leaves of the pair and of the book -/
def SP (late : Bool) (w w' : World) (pp k : Nat) (L : BL) (R : RL) (n : Nat) (U : Nat → Prop) (c : Nat) : Prop :=
  ∃ B' U', Pr w' pp k L R n B' ∧ BkB late w' k U' c ∧ Chg (fun b => PU pp L R b ∨ U b) w w' ∧ ∀ b, U' b → U b ∨ w.heap.size ≤ b
theorem SP.chg {late : Bool} {w w' : World} {pp k n B c : Nat} {L : BL} {R : RL} {U : Nat → Prop} (hb : BkB late w k U c) (hd : ∀ b, PU pp L R b → ¬ U b) (hp : Pr w' pp k L R n B) (hc : Chg (PU pp L R) w w') : SP late w w' pp k L R n U (c + 1) :=
  ⟨B, U, hp, (hb.chg hc fun b hu hp => hd b hp hu).more (by omega), hc.mono fun b _ e => .inl e, fun b e => .inl e⟩
theorem SP.keep {late : Bool} {w x w' : World} {pp k n B c : Nat} {L : BL} {R : RL} {U : Nat → Prop} {v : Value} (hd : ∀ b, PU pp L R b → ¬ U b) (hlt : ∀ b, PU pp L R b → b < w.heap.size) (hp : Pr x pp k L R n B) (hc : Chg (PU pp L R) w x) (hv : ∀ b, v.ownBlock = some b → w.heap.size ≤ b) (hK : KPB late k c U x v w') : SP late w w' pp k L R n U (c + 1) := by
  obtain ⟨U', hB, h1, h2⟩ := hK
  have hs := hc.size
  refine ⟨B, U', hp.kept fun b hb => h1.keep b (by have := hlt b hb; omega) ?_, hB, ⟨h1.os.trans hc.os, h1.tape.trans hc.tape, h1.output.trans hc.output, Nat.le_trans hs h1.size, fun b hb hn => (h1.keep b (by omega) ?_).trans (hc.keep b hb fun e => hn (.inl e))⟩, fun b hb => ?_⟩
  · rintro (e | e)
    · exact hd b hb e
    · have := hlt b hb; have := hv b e; omega
  · rintro (e | e)
    · exact hn (.inr e)
    · have := hv b e; omega
  · rcases h2 b hb with e | e | e
    · exact .inl e
    · exact .inr (hv b e)
    · exact .inr (by omega)
end Go.Proofs.YtnjlbkbhlcccmaaDoor
