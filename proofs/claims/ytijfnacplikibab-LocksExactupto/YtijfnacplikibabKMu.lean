import Derived.Test.YtijfnacplikibabARow
import Derived.Conc.RwLib
import Derived.Conc.MuLone
import Derived.KernelRfl
import Derived.WalkKit
import Derived.WalkSpells
import Derived.WalkLawsBesides
import Derived.BigQuiet
import Derived.Deep.QuietTactic
import Derived.Defers
namespace Go.Proofs.Ytijfnacplikibab
open Go.RowKit Go.MuLone
set_option linter.unusedVariables false
set_option linter.unusedSimpArgs false
set_option maxRecDepth 20000

abbrev muL : Go.Conc.Locks.MuLink := { lock := 43, unlock := 44, ilock := 53, iunlock := 54, lockSlow := 61, unlockSlow := 64, disable := 57, enable := 59, acquire := 60, relMerge := 62, cas32 := 58, add32 := 63, tMutex := 68, tIMutex := 66, tPMutex := 92, tPIMutex := 95, tPI32 := 97, tUP := 99, tNoCopy := 63, tU32 := 64 }
theorem muLib : Go.Conc.Locks.MuLib Try.prog muL :=
  ⟨Try.func43, Try.func44, Try.func53, Try.func54, Try.func57, Try.func59, Try.func60, Try.func62, Try.func58, Try.func63, Try.underlying66, Try.runUnderlying66, Try.sizeOf66, Try.isAgg66, Try.zeroValue66, Try.underlying68, Try.runUnderlying68, Try.sizeOf68, Try.isAgg68, Try.zeroValue68, Try.underlying92, Try.runUnderlying92, Try.sizeOf92, Try.isAgg92, Try.zeroValue92, Try.underlying95, Try.runUnderlying95, Try.sizeOf95, Try.isAgg95, Try.zeroValue95, Try.underlying97, Try.runUnderlying97, Try.sizeOf97, Try.isAgg97, Try.zeroValue97, Try.underlying99, Try.runUnderlying99, Try.sizeOf99, Try.isAgg99, Try.zeroValue99, Try.underlying63, Try.runUnderlying63, Try.sizeOf63, Try.isAgg63, Try.zeroValue63, Try.underlying21, Try.runUnderlying21, Try.sizeOf21, Try.isAgg21, Try.zeroValue21, (by kernel_rfl)⟩

/-- one call's work, while no other has the table -/
theorem guarded_any (K : Nat) (p r : Nat) (w : World) (Q : Int → World → Prop) (c0 : w.cell? ⟨p, 0, none⟩ = some (.int .i32 0)) (f0 : w.frozen? ⟨p, 0, none⟩ = false) (hK : ∀ args w, (callFunc K args).run Try.prog w = .ok (.enter K args) w)
    (hc : Calls Try.prog K #[.pointer (some ⟨r, 0, none⟩)] (w.setCell ⟨p, 0, none⟩ (.int .i32 1)) fun e w' => ∃ n, e = .returned (.int .i64 n) ∧ w'.cell? ⟨p, 0, none⟩ = some (.int .i32 1) ∧ w'.frozen? ⟨p, 0, none⟩ = false ∧ Q n w') :
    Calls Try.prog 31 #[.pointer (some ⟨p, 0, none⟩), .func (.func K) #[.pointer (some ⟨r, 0, none⟩)] #[]] w fun e w' => ∃ n w1, e = .returned (.int .i64 n) ∧ Q n w1 ∧ w' = w1.setCell ⟨p, 0, none⟩ (.int .i32 0) := by
  have HC := hide hc
  clear hc
  go_enter_defers Try.func31, Try.ntmps31
  go_wp2_with (go_at_call 43; refine (lock_free muLib ⟨p, 0, none⟩ _ c0 f0).mono ?_; rintro e w' ⟨rfl, rfl⟩)
  refine HC.out.mono ?_
  rintro e w' ⟨n, rfl, hc1, hf1, hq⟩
  go_wp2_with fail
  refine leaves_cons (f := 44) (args := #[.pointer (some ⟨p, 0, none⟩)]) (by simp) (by simp [go_sem]) ?_
  refine (unlock_deferred muLib ⟨p, 0, none⟩ .returning _ hc1 hf1).mono ?_
  rintro e u' w'' ⟨rfl, rfl, rfl⟩
  exact ⟨_, results_tmp rfl _ _ _, n, w', rfl, hq, rfl⟩
end Go.Proofs.Ytijfnacplikibab
