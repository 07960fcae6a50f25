import Derived.Test.YtbkcenpohcjgnabDoorApp
import Derived.Maps.AppendAt
namespace Go.Proofs.YtbkcenpohcjgnabDoor
open Go.RowKit
open Num
set_option linter.unusedVariables false

/-- two lists that the call owns, in different blocks -/
def Apart (a b : Value) : Prop := ∀ g, a.ownBlock = some g → b.ownBlock ≠ some g
theorem Apart.symm {a b : Value} (h : Apart a b) : Apart b a := fun g hb ha => h g ha hb
theorem apart_nil (b : Value) : Apart (.slice none 0 0) b := fun g h => by simp [Value.ownBlock] at h
/-- what an append to v leaves of the others -/
def Keeps (w w' : World) (v v' : Value) : Prop := ∀ base2 v2 l2, Own w base2 v2 l2 → Apart v v2 → Own w' base2 v2 l2 ∧ Apart v' v2

theorem wpList_app2 {ops : Array Oper} {rest : List Oper} {o : Oper} {a : Act} {w : World} {Q : Exit → Act → World → Prop} (hgd : o.guard = none) (s x : Operand)
    (ho : o.op = .call { callee := .builtin .append, args := #[s, x], argTypes := #[22, 22] })
    (base : Nat) (v vx : Value) (l0 l : List Nat) (hs : a.eval s = v) (hx : a.eval x = vx) (hown : Own w base v l0) (hb : BSl w vx l) (hlen : l0.length + l.length ≤ 140737488355328) (hbase : base ≤ w.heap.size)
    (h : ∀ v' w', Own w' base v' (l0 ++ l) → Below base w w' → base ≤ w'.heap.size → Keeps w w' v v' → wpList Tryd.prog ops Q rest (a.put o.dst v') w') : wpList Tryd.prog ops Q (o :: rest) a w := by
  obtain ⟨i0, hi, hz0, hz1, hz2⟩ := info_parts Tryd.info5
  have hb' := hb
  obtain ⟨ad, cap, rfl, hl, hm, hn, hbb, _⟩ := hb'
  cases ad with
  | none =>
    have hc : cap = 0 := hn rfl
    have hl0 : l = [] := List.eq_nil_of_length_eq_zero (by omega)
    subst hl0
    subst hc
    exact wpList_append_own_none hgd s x 22 ho base 5 i0 1 Tryd.underlying22 hi v l0.length _ hs hown.1 hx (h v w (by rw [List.append_nil]; exact hown) (Below.refl _ _) hbase fun _ _ _ h1 h2 => ⟨h1, h2⟩)
  | some ad =>
    refine wpList_append_own_at _ hgd s x 22 ho base 5 i0 (.int .u8 0) 1 1 Tryd.underlying22 hi hz0 hz1 hz2 rfl (by decide) v l0.length _ hs hown.1 ad l.length cap (l.map byteV) hx (by simp) hb.news (byteV_oneCell l) (by unfold maxLen; omega) (by omega) hbase ?_
    intro v' w1 hown' hg hiff hat
    refine h v' w1 ⟨by rw [List.length_append, List.map_append]; exact hown', fun y hy => (List.mem_append.1 hy).elim (hown.2 y) (hbb y)⟩ ((Below.refl _ _).grown hg hbase fun j hj => (hown.1.lt j hj).1) ?_ ?_
    · exact Nat.le_trans hbase ((Below.refl _ _).grown hg hbase fun j hj => (hown.1.lt j hj).1 : Below base w w1).size
    · intro base2 v2 l2 h2 hap
      refine ⟨⟨h2.1.kept hg ?_, h2.2⟩, ?_⟩
      · cases hv2 : v2.ownBlock with
        | none => exact .inl rfl
        | some g => exact .inr fun he => hap g he.symm hv2
      · intro g hg' hv2
        rcases hat with e | e
        · exact hap g (e ▸ hg') hv2
        · rw [e] at hg'
          have := (h2.1.lt g hv2).2
          simp only [Option.some.injEq] at hg'
          omega
end Go.Proofs.YtbkcenpohcjgnabDoor
