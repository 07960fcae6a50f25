import Derived.Test.YtijfnacplikibaaARow
import Derived.Conc.RwLib
import Derived.Conc.MuLone
import Derived.KernelRfl
import Derived.WalkKit
import Derived.WalkSpells
import Derived.WalkLawsBesides
import Derived.BigQuiet
import Derived.Deep.QuietTactic
import Derived.Defers
namespace Go.Proofs.Ytijfnacplikibaa
open Go.RowKit Go.MuLone
set_option linter.unusedVariables false
set_option linter.unusedSimpArgs false
set_option maxRecDepth 20000

abbrev muL : Go.Conc.Locks.MuLink := { lock := 45, unlock := 46, ilock := 60, iunlock := 61, lockSlow := 68, unlockSlow := 71, disable := 64, enable := 66, acquire := 67, relMerge := 69, cas32 := 65, add32 := 70, tMutex := 85, tIMutex := 83, tPMutex := 104, tPIMutex := 107, tPI32 := 109, tUP := 111, tNoCopy := 80, tU32 := 81 }
theorem muLib : Go.Conc.Locks.MuLib Try.prog muL :=
  ⟨Try.func45, Try.func46, Try.func60, Try.func61, Try.func64, Try.func66, Try.func67, Try.func69, Try.func65, Try.func70, Try.underlying83, Try.runUnderlying83, Try.sizeOf83, Try.isAgg83, Try.zeroValue83, Try.underlying85, Try.runUnderlying85, Try.sizeOf85, Try.isAgg85, Try.zeroValue85, Try.underlying104, Try.runUnderlying104, Try.sizeOf104, Try.isAgg104, Try.zeroValue104, Try.underlying107, Try.runUnderlying107, Try.sizeOf107, Try.isAgg107, Try.zeroValue107, Try.underlying109, Try.runUnderlying109, Try.sizeOf109, Try.isAgg109, Try.zeroValue109, Try.underlying111, Try.runUnderlying111, Try.sizeOf111, Try.isAgg111, Try.zeroValue111, Try.underlying80, Try.runUnderlying80, Try.sizeOf80, Try.isAgg80, Try.zeroValue80, Try.underlying21, Try.runUnderlying21, Try.sizeOf21, Try.isAgg21, Try.zeroValue21, (by kernel_rfl)⟩

/-- one call's work, while no other has the table -/
theorem guarded_any (K : Nat) (p r : Nat) (w : World) (Q : Int → World → Prop) (c0 : w.cell? ⟨p, 0, none⟩ = some (.int .i32 0)) (f0 : w.frozen? ⟨p, 0, none⟩ = false) (hK : ∀ args w, (callFunc K args).run Try.prog w = .ok (.enter K args) w)
    (hc : Calls Try.prog K #[.pointer (some ⟨r, 0, none⟩)] (w.setCell ⟨p, 0, none⟩ (.int .i32 1)) fun e w' => ∃ n, e = .returned (.int .i64 n) ∧ w'.cell? ⟨p, 0, none⟩ = some (.int .i32 1) ∧ w'.frozen? ⟨p, 0, none⟩ = false ∧ Q n w') :
    Calls Try.prog 26 #[.pointer (some ⟨p, 0, none⟩), .func (.func K) #[.pointer (some ⟨r, 0, none⟩)] #[]] w fun e w' => ∃ n w1, e = .returned (.int .i64 n) ∧ Q n w1 ∧ w' = w1.setCell ⟨p, 0, none⟩ (.int .i32 0) := by
  have HC := hide hc
  clear hc
  go_enter_defers Try.func26, Try.ntmps26
  go_wp2_with (go_at_call 45; refine (lock_free muLib ⟨p, 0, none⟩ _ c0 f0).mono ?_; rintro e w' ⟨rfl, rfl⟩)
  refine HC.out.mono ?_
  rintro e w' ⟨n, rfl, hc1, hf1, hq⟩
  go_wp2_with fail
  refine leaves_cons (f := 46) (args := #[.pointer (some ⟨p, 0, none⟩)]) (by simp) (by simp [go_sem]) ?_
  refine (unlock_deferred muLib ⟨p, 0, none⟩ .returning _ hc1 hf1).mono ?_
  rintro e u' w'' ⟨rfl, rfl, rfl⟩
  exact ⟨_, results_tmp rfl _ _ _, n, w', rfl, hq, rfl⟩
end Go.Proofs.Ytijfnacplikibaa
