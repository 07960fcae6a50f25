import Derived.Test.YtedhohamdbplhaaDoorWFit
namespace Go.Proofs.YtedhohamdbplhaaDoor
open Go.RowKit
set_option linter.unusedVariables false
set_option linter.unusedSimpArgs false
set_option maxRecDepth 20000

theorem as_number_number (n : Int) (w : World) : (Instr.typeAssert (.iface 92 (.int .i64 n)) 68 92 true).run Tryd.prog w = .ok (.tuple #[.int .i64 n, .bool true]) w := by kernel_rfl
theorem as_idents_number  (w : World) : (Instr.typeAssert (.iface 98 (.agg #[])) 68 92 true).run Tryd.prog w = .ok (.tuple #[.int .i64 0, .bool false]) w := by kernel_rfl
theorem as_idents_idents  (w : World) : (Instr.typeAssert (.iface 98 (.agg #[])) 68 98 true).run Tryd.prog w = .ok (.tuple #[.agg #[], .bool true]) w := by kernel_rfl
theorem as_sumt_number (t : Bool) (w : World) : (Instr.typeAssert (.iface 96 (.agg #[.bool t])) 68 92 true).run Tryd.prog w = .ok (.tuple #[.int .i64 0, .bool false]) w := by kernel_rfl
theorem as_sumt_idents (t : Bool) (w : World) : (Instr.typeAssert (.iface 96 (.agg #[.bool t])) 68 98 true).run Tryd.prog w = .ok (.tuple #[.agg #[], .bool false]) w := by kernel_rfl
theorem as_sumt_sumt (t : Bool) (w : World) : (Instr.typeAssert (.iface 96 (.agg #[.bool t])) 68 96 true).run Tryd.prog w = .ok (.tuple #[.agg #[.bool t], .bool true]) w := by kernel_rfl
theorem as_data_number (lo hi : Int) (t : Bool) (w : World) : (Instr.typeAssert (.iface 94 (.agg #[.int .u64 lo, .int .u64 hi, .bool t])) 68 92 true).run Tryd.prog w = .ok (.tuple #[.int .i64 0, .bool false]) w := by kernel_rfl
theorem as_data_idents (lo hi : Int) (t : Bool) (w : World) : (Instr.typeAssert (.iface 94 (.agg #[.int .u64 lo, .int .u64 hi, .bool t])) 68 98 true).run Tryd.prog w = .ok (.tuple #[.agg #[], .bool false]) w := by kernel_rfl
theorem as_data_sumt (lo hi : Int) (t : Bool) (w : World) : (Instr.typeAssert (.iface 94 (.agg #[.int .u64 lo, .int .u64 hi, .bool t])) 68 96 true).run Tryd.prog w = .ok (.tuple #[.agg #[.bool false], .bool false]) w := by kernel_rfl
theorem as_data_data (lo hi : Int) (t : Bool) (w : World) : (Instr.typeAssert (.iface 94 (.agg #[.int .u64 lo, .int .u64 hi, .bool t])) 68 94 true).run Tryd.prog w = .ok (.tuple #[.agg #[.int .u64 lo, .int .u64 hi, .bool t], .bool true]) w := by kernel_rfl

/-- what an append to one's own bytes leaves -/
def AF (w : World) (base : Nat) (l : List Nat) (e : Ending) (w' : World) : Prop := ∃ v', e = .returned v' ∧ Own w' base v' l ∧ Below base w w' ∧ base ≤ w'.heap.size

set_option maxHeartbeats 2000000 in
theorem af_num (w : World) (base : Nat) (ov : Value) (l : List Nat) (pb n : Nat) (p : PV) (v : Value) (ho : Own w base ov l) (hbase : base ≤ w.heap.size) (hl : l.length + 8 ≤ 140737488355328) (h : PM w pb p v) (hT : BTab w) (hn : n < 18) (hpb : pb < base) (hTb : 0 < base) :
    Calls Tryd.prog 24 #[ov, (Fd.num n).val, .pointer (some ⟨pb, 0, none⟩)] w fun e' w' => AF w base (l ++ encF p (.num n)) e' w' := by
  obtain ⟨t0, _, _⟩ := hT n hn
  obtain ⟨hpl, _, _⟩ := bnd_lt n hn
  have c0 := h.five.at hpl
  have hx := h.ok.get (bnd n).1
  have HE : Hid (encF p (.num n) = be (p.get (bnd n).1) 4) := hide rfl
  unfold PV.get at *
  generalize five p.a p.b p.c p.d p.e (bnd n).1 = x at *
  generalize (bnd n).1 = pl at *
  have HA := hide fun k => appendNumber_any (w.drewN k) base ov l x 4 (by omega) (by decide) (ho.keptIf fun _ _ => rfl) hbase hl
  have m1 := as_number_number
  unfold Fd.val
  have i1 : (n : Int) < 18 := by omega
  have i2 : (pl : Int) < 5 := by omega
  have hwx : IntKind.u64.wrap (x : Int) = (x : Int) := wrap_u64 (by omega)
  generalize hea : encF p (.num n) = ea at *
  have HSS : Hid (∀ y, Below base w y → y.cell? ⟨0, n * 3, none⟩ = some (.int .i64 (pl : Int)) ∧ y.cell? ⟨pb, pl, none⟩ = some (.int .u32 (x : Int))) := hide fun y hb => ⟨(hb.cell (p := ⟨0, n * 3, none⟩) hTb).trans t0, (hb.cell (p := ⟨pb, pl, none⟩) hpb).trans c0⟩
  clear h hT ho hea
  rename_i dd1 dd2 dd3 dd4
  clear dd1 dd2 dd3 dd4
  go_enter Tryd.func24, Tryd.ntmps24
  go_wp2_with fail
  go_region_held3 (fun y => y.cell? ⟨0, n * 3, none⟩ = some (.int .i64 (pl : Int)) ∧ y.cell? ⟨pb, pl, none⟩ = some (.int .u32 (x : Int))) (first | exact ⟨t0, c0⟩ | exact HSY.out)
    ((go_at_call 31; refine (HA.out _).mono ?_; rintro e' y ⟨v', rfl, ho', hb', hs'⟩; have HO2 := hide ho'; have HB2 : Hid (Below base w y) := hide ((show Below base w (w.drewN _) from ⟨rfl, rfl, rfl, Nat.le_refl _, fun _ _ => rfl⟩).trans hb'); have HS2 := hide hs'; have HSY := hide (HSS.out y HB2.out); clear ho' hb' hs' HA))
  all_goals
    go_wp2_with fail
    go_ret
    exact ⟨_, rfl, by rw [HE.out]; exact HO2.out, HB2.out, HS2.out⟩
end Go.Proofs.YtedhohamdbplhaaDoor
