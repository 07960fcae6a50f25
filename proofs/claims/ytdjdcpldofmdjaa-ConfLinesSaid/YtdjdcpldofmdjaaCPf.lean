import Derived.Test.YtdjdcpldofmdjaaCPo
namespace Go.Proofs.Ytdjdcpldofmdjaa
open Go.RowKit
set_option linter.unusedVariables false
set_option linter.unusedSimpArgs false
set_option maxRecDepth 20000

def leadsL : List ByteArray := [⟨#[99, 115, 58]⟩, ⟨#[32, 114, 111, 58]⟩, ⟨#[47]⟩, ⟨#[32, 100, 115, 58]⟩, ⟨#[47]⟩, ⟨#[32]⟩, ⟨#[32, 110, 115, 58]⟩, ⟨#[32, 110, 114, 58]⟩, ⟨#[32, 100, 119, 58]⟩, ⟨#[32, 100, 114, 58]⟩, ⟨#[32, 97, 108, 58]⟩, ⟨#[32, 97, 112, 58]⟩, ⟨#[32, 117, 97, 58]⟩, ⟨#[32, 101, 112, 58]⟩, ⟨#[32, 111, 111, 115, 58]⟩]
def kindsL : List (Option Nm) := [some connsN, some rolesN, some peersN, some disksN, some pdsksN, some protsN, none, none, none, none, none, none, none, none, none]
/-- what a part shows: the field's place, and its names -/
def PtV (w : World) (p k : Nat) (d : Option Nm) (v : Value) : Prop := match d with
  | some ns => ∃ u, NmL w u ns ∧ v = .iface 86 (.agg #[.pointer (some ⟨p, k, none⟩), u])
  | none => v = .iface 88 (.agg #[.pointer (some ⟨p, k, none⟩)])
theorem PtV.below {w w' : World} {p k : Nat} {d : Option Nm} {v : Value} (h : PtV w p k d v) (hb : Below w.heap.size w w') : PtV w' p k d v := by
  cases d with
  | none => exact h
  | some ns => obtain ⟨u, h1, h2⟩ := h; exact ⟨u, h1.below hb, h2⟩
/-- the list of parts in memory -/
def PtL (w : World) (v : Value) (p : Nat) : Prop := ∃ g, v = .slice (some ⟨g, 0, none⟩) 15 15 ∧ ∀ k, k < 15 → w.cell? ⟨g, k * 2, none⟩ = some (.string (leadsL.getD k ⟨#[]⟩)) ∧ ∃ x, w.cell? ⟨g, k * 2 + 1, none⟩ = some x ∧ PtV w p k (kindsL.getD k none) x
theorem PtL.below {w w' : World} {v : Value} {p : Nat} (h : PtL w v p) (hb : Below w.heap.size w w') : PtL w' v p := by
  obtain ⟨g, e, hh⟩ := h
  refine ⟨g, e, fun k hk => ?_⟩
  obtain ⟨h1, x, h2, h3⟩ := hh k hk
  exact ⟨cell_bel hb h1, x, cell_bel hb h2, h3.below hb⟩
inductive Ds2 where
  | ex (v : Value)
  | nm (ns : Nm) (F : Value → Value)
  | one (s : ByteArray) (n : Int)
  | fin (p : Nat)
def Ds2.holds : Ds2 → Value → World → Prop
  | .ex v0, v, _ => v = v0
  | .nm ns F, v, w => ∃ u, NmL w u ns ∧ v = F u
  | .one s n, v, w => ∃ g, w.cell? ⟨g, 0, none⟩ = some (.string s) ∧ w.cell? ⟨g, 1, none⟩ = some (.int .i64 n) ∧ v = .slice (some ⟨g, 0, none⟩) 1 1
  | .fin p, v, w => PtL w v p
theorem Ds2.stays {d : Ds2} {v : Value} {w w' : World} (h : d.holds v w) (hb : Below w.heap.size w w') : d.holds v w' := by
  cases d with
  | ex v0 => exact h
  | nm ns F => obtain ⟨u, h1, h2⟩ := h; exact ⟨u, h1.below hb, h2⟩
  | one s n => obtain ⟨g, h1, h2, h3⟩ := h; exact ⟨g, cell_bel hb h1, cell_bel hb h2, h3⟩
  | fin p => exact PtL.below h hb
def prtTab (p R : Nat) : List Ds2 := [.ex (.pointer (some ⟨p, 0, none⟩)),
  .ex (.pointer (some ⟨p, 0, none⟩)),
  .ex (.pointer (some ⟨p, 0, none⟩)),
  .nm connsN (fun u => u),
  .nm connsN (fun u => .agg #[.pointer (some ⟨p, 0, none⟩), u]),
  .nm connsN (fun u => .iface 86 (.agg #[.pointer (some ⟨p, 0, none⟩), u])),
  .nm connsN (fun u => .agg #[.string ⟨#[99, 115, 58]⟩, .iface 86 (.agg #[.pointer (some ⟨p, 0, none⟩), u])]),
  .ex (.pointer (some ⟨p, 0, none⟩)),
  .ex (.pointer (some ⟨p, 0, none⟩)),
  .ex (.pointer (some ⟨p, 1, none⟩)),
  .nm rolesN (fun u => u),
  .nm rolesN (fun u => .agg #[.pointer (some ⟨p, 1, none⟩), u]),
  .nm rolesN (fun u => .iface 86 (.agg #[.pointer (some ⟨p, 1, none⟩), u])),
  .nm rolesN (fun u => .agg #[.string ⟨#[32, 114, 111, 58]⟩, .iface 86 (.agg #[.pointer (some ⟨p, 1, none⟩), u])]),
  .ex (.pointer (some ⟨p, 0, none⟩)),
  .ex (.pointer (some ⟨p, 0, none⟩)),
  .ex (.pointer (some ⟨p, 2, none⟩)),
  .ex (.slice (some ⟨R, 0, none⟩) 2 2),
  .ex (.slice (some ⟨R, 0, none⟩) 2 2),
  .ex (.agg #[.string ⟨#[85, 110, 107, 110, 111, 119, 110]⟩, .int .i64 2]),
  .one ⟨#[85, 110, 107, 110, 111, 119, 110]⟩ 2,
  .nm peersN (fun u => u),
  .nm peersN (fun u => .agg #[.pointer (some ⟨p, 2, none⟩), u]),
  .nm peersN (fun u => .iface 86 (.agg #[.pointer (some ⟨p, 2, none⟩), u])),
  .nm peersN (fun u => .agg #[.string ⟨#[47]⟩, .iface 86 (.agg #[.pointer (some ⟨p, 2, none⟩), u])]),
  .ex (.pointer (some ⟨p, 0, none⟩)),
  .ex (.pointer (some ⟨p, 0, none⟩)),
  .ex (.pointer (some ⟨p, 3, none⟩)),
  .nm disksN (fun u => u),
  .nm disksN (fun u => .agg #[.pointer (some ⟨p, 3, none⟩), u]),
  .nm disksN (fun u => .iface 86 (.agg #[.pointer (some ⟨p, 3, none⟩), u])),
  .nm disksN (fun u => .agg #[.string ⟨#[32, 100, 115, 58]⟩, .iface 86 (.agg #[.pointer (some ⟨p, 3, none⟩), u])]),
  .ex (.pointer (some ⟨p, 0, none⟩)),
  .ex (.pointer (some ⟨p, 0, none⟩)),
  .ex (.pointer (some ⟨p, 4, none⟩)),
  .ex (.slice (some ⟨R + 1, 0, none⟩) 3 3),
  .ex (.slice (some ⟨R + 1, 0, none⟩) 3 3),
  .ex (.agg #[.string ⟨#[68, 85, 110, 107, 110, 111, 119, 110]⟩, .int .i64 3]),
  .one ⟨#[68, 85, 110, 107, 110, 111, 119, 110]⟩ 3,
  .nm pdsksN (fun u => u),
  .nm pdsksN (fun u => .agg #[.pointer (some ⟨p, 4, none⟩), u]),
  .nm pdsksN (fun u => .iface 86 (.agg #[.pointer (some ⟨p, 4, none⟩), u])),
  .nm pdsksN (fun u => .agg #[.string ⟨#[47]⟩, .iface 86 (.agg #[.pointer (some ⟨p, 4, none⟩), u])]),
  .ex (.pointer (some ⟨p, 0, none⟩)),
  .ex (.pointer (some ⟨p, 0, none⟩)),
  .ex (.pointer (some ⟨p, 5, none⟩)),
  .nm protsN (fun u => u),
  .nm protsN (fun u => .agg #[.pointer (some ⟨p, 5, none⟩), u]),
  .nm protsN (fun u => .iface 86 (.agg #[.pointer (some ⟨p, 5, none⟩), u])),
  .nm protsN (fun u => .agg #[.string ⟨#[32]⟩, .iface 86 (.agg #[.pointer (some ⟨p, 5, none⟩), u])]),
  .ex (.pointer (some ⟨p, 0, none⟩)),
  .ex (.pointer (some ⟨p, 0, none⟩)),
  .ex (.pointer (some ⟨p, 6, none⟩)),
  .ex (.agg #[.pointer (some ⟨p, 6, none⟩)]),
  .ex (.iface 88 (.agg #[.pointer (some ⟨p, 6, none⟩)])),
  .ex (.agg #[.string ⟨#[32, 110, 115, 58]⟩, .iface 88 (.agg #[.pointer (some ⟨p, 6, none⟩)])]),
  .ex (.pointer (some ⟨p, 0, none⟩)),
  .ex (.pointer (some ⟨p, 0, none⟩)),
  .ex (.pointer (some ⟨p, 7, none⟩)),
  .ex (.agg #[.pointer (some ⟨p, 7, none⟩)]),
  .ex (.iface 88 (.agg #[.pointer (some ⟨p, 7, none⟩)])),
  .ex (.agg #[.string ⟨#[32, 110, 114, 58]⟩, .iface 88 (.agg #[.pointer (some ⟨p, 7, none⟩)])]),
  .ex (.pointer (some ⟨p, 0, none⟩)),
  .ex (.pointer (some ⟨p, 0, none⟩)),
  .ex (.pointer (some ⟨p, 8, none⟩)),
  .ex (.agg #[.pointer (some ⟨p, 8, none⟩)]),
  .ex (.iface 88 (.agg #[.pointer (some ⟨p, 8, none⟩)])),
  .ex (.agg #[.string ⟨#[32, 100, 119, 58]⟩, .iface 88 (.agg #[.pointer (some ⟨p, 8, none⟩)])]),
  .ex (.pointer (some ⟨p, 0, none⟩)),
  .ex (.pointer (some ⟨p, 0, none⟩)),
  .ex (.pointer (some ⟨p, 9, none⟩)),
  .ex (.agg #[.pointer (some ⟨p, 9, none⟩)]),
  .ex (.iface 88 (.agg #[.pointer (some ⟨p, 9, none⟩)])),
  .ex (.agg #[.string ⟨#[32, 100, 114, 58]⟩, .iface 88 (.agg #[.pointer (some ⟨p, 9, none⟩)])]),
  .ex (.pointer (some ⟨p, 0, none⟩)),
  .ex (.pointer (some ⟨p, 0, none⟩)),
  .ex (.pointer (some ⟨p, 10, none⟩)),
  .ex (.agg #[.pointer (some ⟨p, 10, none⟩)]),
  .ex (.iface 88 (.agg #[.pointer (some ⟨p, 10, none⟩)])),
  .ex (.agg #[.string ⟨#[32, 97, 108, 58]⟩, .iface 88 (.agg #[.pointer (some ⟨p, 10, none⟩)])]),
  .ex (.pointer (some ⟨p, 0, none⟩)),
  .ex (.pointer (some ⟨p, 0, none⟩)),
  .ex (.pointer (some ⟨p, 11, none⟩)),
  .ex (.agg #[.pointer (some ⟨p, 11, none⟩)]),
  .ex (.iface 88 (.agg #[.pointer (some ⟨p, 11, none⟩)])),
  .ex (.agg #[.string ⟨#[32, 97, 112, 58]⟩, .iface 88 (.agg #[.pointer (some ⟨p, 11, none⟩)])]),
  .ex (.pointer (some ⟨p, 0, none⟩)),
  .ex (.pointer (some ⟨p, 0, none⟩)),
  .ex (.pointer (some ⟨p, 12, none⟩)),
  .ex (.agg #[.pointer (some ⟨p, 12, none⟩)]),
  .ex (.iface 88 (.agg #[.pointer (some ⟨p, 12, none⟩)])),
  .ex (.agg #[.string ⟨#[32, 117, 97, 58]⟩, .iface 88 (.agg #[.pointer (some ⟨p, 12, none⟩)])]),
  .ex (.pointer (some ⟨p, 0, none⟩)),
  .ex (.pointer (some ⟨p, 0, none⟩)),
  .ex (.pointer (some ⟨p, 13, none⟩)),
  .ex (.agg #[.pointer (some ⟨p, 13, none⟩)]),
  .ex (.iface 88 (.agg #[.pointer (some ⟨p, 13, none⟩)])),
  .ex (.agg #[.string ⟨#[32, 101, 112, 58]⟩, .iface 88 (.agg #[.pointer (some ⟨p, 13, none⟩)])]),
  .ex (.pointer (some ⟨p, 0, none⟩)),
  .ex (.pointer (some ⟨p, 0, none⟩)),
  .ex (.pointer (some ⟨p, 14, none⟩)),
  .ex (.agg #[.pointer (some ⟨p, 14, none⟩)]),
  .ex (.iface 88 (.agg #[.pointer (some ⟨p, 14, none⟩)])),
  .ex (.agg #[.string ⟨#[32, 111, 111, 115, 58]⟩, .iface 88 (.agg #[.pointer (some ⟨p, 14, none⟩)])]),
  .fin p,
  .fin p]
/-- an operation of the region does what the table says, if those ahead of it have -/
def StepP (p R i : Nat) (o : Oper) : Prop := ∀ (a : Act) (w : World) (Q : Exit → Act → World → Prop), a.eval (.tmp 0) = .pointer (some ⟨p, 0, none⟩) → a.eval (.tmp 3) = .slice (some ⟨R, 0, none⟩) 2 2 → a.eval (.tmp 4) = .slice (some ⟨R + 1, 0, none⟩) 3 3 → NmL w (.slice (some ⟨R, 0, none⟩) 2 2) rolesN → NmL w (.slice (some ⟨R + 1, 0, none⟩) 3 3) disksN →
  (∀ e ∈ o.after, Region.binds .any e = true → e.on < 105 → ((prtTab p R).getD e.on (.ex undef)).holds (a.eval (.tmp (e.on + 12))) w) →
  o.wp Try.prog a w (fun a' w' => ∃ v, a' = a.put o.dst v ∧ ((prtTab p R).getD i (.ex undef)).holds v w' ∧ Below w.heap.size w w') Q
theorem dep {p R t : Nat} {o : Oper} {a : Act} {w : World} {d : Ds2} (hd : ∀ e ∈ o.after, Region.binds .any e = true → e.on < 105 → ((prtTab p R).getD e.on (.ex undef)).holds (a.eval (.tmp (e.on + 12))) w) (k : Nat) (ht : k + 12 = t) (hk : k < 105) (hm : (⟨k, .data⟩ : Edge) ∈ o.after) (hT : (prtTab p R).getD k (.ex undef) = d) : d.holds (a.eval (.tmp t)) w := by
  have := hd ⟨k, .data⟩ hm rfl hk
  rw [hT] at this
  rw [← ht]
  exact this
section
variable (p R i : Nat) (o : Oper)
theorem s_mov0 (ho : o.op = .move (.tmp 0)) (hT : (prtTab p R).getD i (.ex undef) = .ex (.pointer (some ⟨p, 0, none⟩))) : StepP p R i o := fun a w Q h0 h3 h4 hr hk hd =>
  opv (r_mov _ w o 0 _ ho h0) ⟨_, rfl, by rw [hT]; rfl, Below.refl _ _⟩
theorem s_mov3x (ho : o.op = .move (.tmp 3)) (hT : (prtTab p R).getD i (.ex undef) = .ex (.slice (some ⟨R, 0, none⟩) 2 2)) : StepP p R i o := fun a w Q h0 h3 h4 hr hk hd =>
  opv (r_mov _ w o 3 _ ho h3) ⟨_, rfl, by rw [hT]; rfl, Below.refl _ _⟩
theorem s_mov4x (ho : o.op = .move (.tmp 4)) (hT : (prtTab p R).getD i (.ex undef) = .ex (.slice (some ⟨R + 1, 0, none⟩) 3 3)) : StepP p R i o := fun a w Q h0 h3 h4 hr hk hd =>
  opv (r_mov _ w o 4 _ ho h4) ⟨_, rfl, by rw [hT]; rfl, Below.refl _ _⟩
theorem s_mov3 (ho : o.op = .move (.tmp 3)) (hT : (prtTab p R).getD i (.ex undef) = .nm rolesN (fun u => u)) : StepP p R i o := fun a w Q h0 h3 h4 hr hk hd =>
  opv (r_mov _ w o 3 _ ho h3) ⟨_, rfl, by rw [hT]; exact ⟨_, hr, rfl⟩, Below.refl _ _⟩
theorem s_mov4 (ho : o.op = .move (.tmp 4)) (hT : (prtTab p R).getD i (.ex undef) = .nm disksN (fun u => u)) : StepP p R i o := fun a w Q h0 h3 h4 hr hk hd =>
  opv (r_mov _ w o 4 _ ho h4) ⟨_, rfl, by rw [hT]; exact ⟨_, hk, rfl⟩, Below.refl _ _⟩
/-- what the operation that lays temporary t yields -/
def DepOK (t : Nat) (d : Ds2) : Prop := (t - 12 + 12 = t ∧ t - 12 < 105) ∧ (prtTab p R).getD (t - 12) (.ex undef) = d
abbrev Aft (t : Nat) : Prop := (⟨t - 12, .data⟩ : Edge) ∈ o.after
theorem s_nil (t : Nat) (ho : o.op = .nilCheck (.tmp t)) (hm : Aft o t) (hD : DepOK p R t (.ex (.pointer (some ⟨p, 0, none⟩)))) (hT : (prtTab p R).getD i (.ex undef) = .ex (.pointer (some ⟨p, 0, none⟩))) : StepP p R i o := fun a w Q h0 h3 h4 hr hk hd =>
  opv (r_nil _ w o t p ho (dep hd _ hD.1.1 hD.1.2 hm hD.2)) ⟨_, rfl, by rw [hT]; rfl, Below.refl _ _⟩
theorem s_fld (t k : Nat) (hk : k < 15) (ho : o.op = .fieldAddr 23 (.tmp t) k) (hm : Aft o t) (hD : DepOK p R t (.ex (.pointer (some ⟨p, 0, none⟩)))) (hT : (prtTab p R).getD i (.ex undef) = .ex (.pointer (some ⟨p, k, none⟩))) : StepP p R i o := fun a w Q h0 h3 h4 hr _ hd =>
  opv (r_fld _ w o t p k hk ho (dep hd _ hD.1.1 hD.1.2 hm hD.2)) ⟨_, rfl, by rw [hT]; rfl, Below.refl _ _⟩
theorem s_cal (f : FuncId) (hf : f = 35 ∨ f = 36) (ns : Nm) (hc : ∀ w, Calls Try.prog f #[] w fun e w' => ∃ v, e = .returned v ∧ NmL w' v ns ∧ Below w.heap.size w w') (ho : o.op = .call { callee := .value (.func f), args := #[], argTypes := #[] }) (hT : (prtTab p R).getD i (.ex undef) = .nm ns (fun u => u)) : StepP p R i o := fun a w Q h0 h3 h4 hr hk hd =>
  op_call0 f (r_cl _ w o f hf ho rfl) (hc w) (fun e w' ⟨v, h, _⟩ => ⟨v, h⟩) fun v w' ⟨v', h1, h2, h3⟩ => by
    cases h1
    exact ⟨_, rfl, by rw [hT]; exact ⟨_, h2, rfl⟩, h3⟩
theorem s_cho (t s k : Nat) (ns : Nm) (ho : o.op = .build 86 #[(0, .tmp t), (1, .tmp s)]) (hm : Aft o t) (hm2 : Aft o s) (hD : DepOK p R t (.ex (.pointer (some ⟨p, k, none⟩)))) (hD2 : DepOK p R s (.nm ns (fun u => u))) (hT : (prtTab p R).getD i (.ex undef) = .nm ns (fun u => .agg #[.pointer (some ⟨p, k, none⟩), u])) : StepP p R i o := fun a w Q h0 h3 h4 hr hk hd => by
  have e1 := dep hd _ hD.1.1 hD.1.2 hm hD.2
  obtain ⟨u, hu, e2⟩ := dep hd _ hD2.1.1 hD2.1.2 hm2 hD2.2
  have hs : ∃ a n c, u = .slice a n c := by obtain ⟨g, off, cap, e, _⟩ := hu; exact ⟨_, _, _, e⟩
  exact opv (r_cho _ w o t s _ u ⟨_, rfl⟩ hs ho e1 e2) ⟨_, rfl, by rw [hT]; exact ⟨u, hu, rfl⟩, Below.refl _ _⟩
theorem s_ifc (t k : Nat) (ns : Nm) (ho : o.op = .makeInterface 86 (.tmp t)) (hm : Aft o t) (hD : DepOK p R t (.nm ns (fun u => .agg #[.pointer (some ⟨p, k, none⟩), u]))) (hT : (prtTab p R).getD i (.ex undef) = .nm ns (fun u => .iface 86 (.agg #[.pointer (some ⟨p, k, none⟩), u]))) : StepP p R i o := fun a w Q h0 h3 h4 hr hk hd => by
  obtain ⟨u, hu, e2⟩ := dep hd _ hD.1.1 hD.1.2 hm hD.2
  exact opv (r_ifc _ w o t _ ho ⟨_, rfl⟩ e2) ⟨_, rfl, by rw [hT]; exact ⟨u, hu, rfl⟩, Below.refl _ _⟩
theorem s_prt (t k : Nat) (ns : Nm) (s : ByteArray) (ho : o.op = .build 46 #[(0, .const (.string s)), (1, .tmp t)]) (hm : Aft o t) (hD : DepOK p R t (.nm ns (fun u => .iface 86 (.agg #[.pointer (some ⟨p, k, none⟩), u])))) (hT : (prtTab p R).getD i (.ex undef) = .nm ns (fun u => .agg #[.string s, .iface 86 (.agg #[.pointer (some ⟨p, k, none⟩), u])])) : StepP p R i o := fun a w Q h0 h3 h4 hr hk hd => by
  obtain ⟨u, hu, e2⟩ := dep hd _ hD.1.1 hD.1.2 hm hD.2
  exact opv (r_prt _ w o t s _ ⟨_, _, rfl⟩ ho rfl e2) ⟨_, rfl, by rw [hT]; exact ⟨u, hu, rfl⟩, Below.refl _ _⟩
theorem s_cnt (t k : Nat) (ho : o.op = .build 88 #[(0, .tmp t)]) (hm : Aft o t) (hD : DepOK p R t (.ex (.pointer (some ⟨p, k, none⟩)))) (hT : (prtTab p R).getD i (.ex undef) = .ex (.agg #[.pointer (some ⟨p, k, none⟩)])) : StepP p R i o := fun a w Q h0 h3 h4 hr hk hd =>
  opv (r_cnt _ w o t _ ⟨_, rfl⟩ ho (dep hd _ hD.1.1 hD.1.2 hm hD.2)) ⟨_, rfl, by rw [hT]; rfl, Below.refl _ _⟩
theorem s_ifn (t k : Nat) (ho : o.op = .makeInterface 88 (.tmp t)) (hm : Aft o t) (hD : DepOK p R t (.ex (.agg #[.pointer (some ⟨p, k, none⟩)]))) (hT : (prtTab p R).getD i (.ex undef) = .ex (.iface 88 (.agg #[.pointer (some ⟨p, k, none⟩)]))) : StepP p R i o := fun a w Q h0 h3 h4 hr hk hd =>
  opv (r_ifn _ w o t _ ho ⟨_, rfl⟩ (dep hd _ hD.1.1 hD.1.2 hm hD.2)) ⟨_, rfl, by rw [hT]; rfl, Below.refl _ _⟩
theorem s_prn (t k : Nat) (s : ByteArray) (ho : o.op = .build 46 #[(0, .const (.string s)), (1, .tmp t)]) (hm : Aft o t) (hD : DepOK p R t (.ex (.iface 88 (.agg #[.pointer (some ⟨p, k, none⟩)])))) (hT : (prtTab p R).getD i (.ex undef) = .ex (.agg #[.string s, .iface 88 (.agg #[.pointer (some ⟨p, k, none⟩)])])) : StepP p R i o := fun a w Q h0 h3 h4 hr hk hd =>
  opv (r_prt _ w o t s _ ⟨_, _, rfl⟩ ho rfl (dep hd _ hD.1.1 hD.1.2 hm hD.2)) ⟨_, rfl, by rw [hT]; rfl, Below.refl _ _⟩
theorem s_nmd (s : ByteArray) (n : Int) (ho : o.op = .build 81 #[(0, .const (.string s)), (1, .const (.int .i64 n))]) (hT : (prtTab p R).getD i (.ex undef) = .ex (.agg #[.string s, .int .i64 n])) : StepP p R i o := fun a w Q h0 h3 h4 hr hk hd =>
  opv (r_nmd _ w o s n ho rfl rfl) ⟨_, rfl, by rw [hT]; rfl, Below.refl _ _⟩
theorem s_one (t : Nat) (s : ByteArray) (n : Int) (ho : o.op = .buildSlice 82 1 #[(0, .tmp t)]) (hm : Aft o t) (hD : DepOK p R t (.ex (.agg #[.string s, .int .i64 n]))) (hT : (prtTab p R).getD i (.ex undef) = .one s n) : StepP p R i o := fun a w Q h0 h3 h4 hr hk hd =>
  opv' (r_one _ w o t s n ho (dep hd _ hD.1.1 hD.1.2 hm hD.2)) ⟨_, rfl, by
    rw [hT]
    exact ⟨w.heap.size, cell_of_row _ _ _ _ _ _ (Go.heap_alloc_new w _), cell_of_row _ _ _ _ _ _ (Go.heap_alloc_new w _), rfl⟩, (Below.refl _ _).alloc (Nat.le_refl _) _⟩
theorem s_slc2 (t : Nat) (ho : o.op = .slice 82 (.tmp t) none (some (.const (.int .i64 2))) (some (.const (.int .i64 2)))) (hm : Aft o t) (hD : DepOK p R t (.ex (.slice (some ⟨R, 0, none⟩) 2 2))) (hT : (prtTab p R).getD i (.ex undef) = .ex (.slice (some ⟨R, 0, none⟩) 2 2)) : StepP p R i o := fun a w Q h0 h3 h4 hr hk hd =>
  opv (r_slc2 _ w o t R ho rfl (dep hd _ hD.1.1 hD.1.2 hm hD.2)) ⟨_, rfl, by rw [hT]; rfl, Below.refl _ _⟩
theorem s_slc3 (t : Nat) (ho : o.op = .slice 82 (.tmp t) none (some (.const (.int .i64 3))) (some (.const (.int .i64 3)))) (hm : Aft o t) (hD : DepOK p R t (.ex (.slice (some ⟨R + 1, 0, none⟩) 3 3))) (hT : (prtTab p R).getD i (.ex undef) = .ex (.slice (some ⟨R + 1, 0, none⟩) 3 3)) : StepP p R i o := fun a w Q h0 h3 h4 hr hk hd =>
  opv (r_slc3 _ w o t (R + 1) ho rfl (dep hd _ hD.1.1 hD.1.2 hm hD.2)) ⟨_, rfl, by rw [hT]; rfl, Below.refl _ _⟩
theorem s_app2 (t u : Nat) (s : ByteArray) (x : Int) (ho : o.op = .call { callee := .builtin .append, args := #[.tmp t, .tmp u], argTypes := #[82, 82] }) (hm : Aft o t) (hm2 : Aft o u) (hD : DepOK p R t (.ex (.slice (some ⟨R, 0, none⟩) 2 2))) (hD2 : DepOK p R u (.one s x)) (hT : (prtTab p R).getD i (.ex undef) = .nm (rolesN ++ [(s, x)]) (fun u => u)) : StepP p R i o := fun a w Q h0 h3 h4 hr hk hd => by
  have e1 := dep hd _ hD.1.1 hD.1.2 hm hD.2
  obtain ⟨q, c0, c1, e2⟩ := dep hd _ hD2.1.1 hD2.1.2 hm2 hD2.2
  obtain ⟨v, w', g1, g2, g3⟩ := r_app a.eval o t u hr (by decide) c0 c1 ho e1 e2
  exact opv' g1 ⟨_, rfl, by rw [hT]; exact ⟨_, g2, rfl⟩, g3⟩
theorem s_app3 (t u : Nat) (s : ByteArray) (x : Int) (ho : o.op = .call { callee := .builtin .append, args := #[.tmp t, .tmp u], argTypes := #[82, 82] }) (hm : Aft o t) (hm2 : Aft o u) (hD : DepOK p R t (.ex (.slice (some ⟨R + 1, 0, none⟩) 3 3))) (hD2 : DepOK p R u (.one s x)) (hT : (prtTab p R).getD i (.ex undef) = .nm (disksN ++ [(s, x)]) (fun u => u)) : StepP p R i o := fun a w Q h0 h3 h4 hr hk hd => by
  have e1 := dep hd _ hD.1.1 hD.1.2 hm hD.2
  obtain ⟨q, c0, c1, e2⟩ := dep hd _ hD2.1.1 hD2.1.2 hm2 hD2.2
  obtain ⟨v, w', g1, g2, g3⟩ := r_app a.eval o t u hk (by decide) c0 c1 ho e1 e2
  exact opv' g1 ⟨_, rfl, by rw [hT]; exact ⟨_, g2, rfl⟩, g3⟩
theorem s_asg (ho : o.op = .assign (.tmp 116)) (hm : Aft o 116) (hT : (prtTab p R).getD i (.ex undef) = .fin p) : StepP p R i o := fun a w Q h0 h3 h4 hr hk hd => by
  have e1 : PtL w (a.eval (.tmp 116)) p := dep (d := .fin p) hd 104 rfl (by decide) hm rfl
  refine opv (v := a.eval (.tmp 116)) ?_ ⟨_, rfl, by rw [hT]; exact e1, Below.refl _ _⟩
  obtain ⟨g, e, -⟩ := e1
  cases o
  cases ho
  simp [execOp, e, go_sem]
end
end Go.Proofs.Ytdjdcpldofmdjaa
