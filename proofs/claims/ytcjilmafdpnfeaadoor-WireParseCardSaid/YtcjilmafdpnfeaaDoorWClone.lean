import Derived.Test.YtcjilmafdpnfeaaDoorWApp
import Derived.Lib.SliceRun
namespace Go.Proofs.YtcjilmafdpnfeaaDoor
open Go.RowKit
open Num
set_option linter.unusedVariables false
set_option linter.unusedSimpArgs false

set_option maxHeartbeats 1000000 in
theorem cloneB_any (v : Value) (l : List Nat) (w : World) (h : BSl w v l) (hp : 0 < l.length) (hr : l.length ≤ 140737488355328) :
    Calls Tryd.prog 32 #[v] w fun e w' => ∃ v', e = .returned v' ∧ Own w' w.heap.size v' l ∧ Below w.heap.size w w' := by
  have hmade : (w.alloc (.cells #[] 5)).ownsRow w.heap.size 5 1 (.slice (some ⟨w.heap.size, 0, none⟩) 0 0) 0 [] := World.ownsRow_made w #[] 0 (Nat.le_refl _) (by unfold maxLen; omega) rfl
  have HM : Hid (Own (w.alloc (.cells #[] 5)) w.heap.size (.slice (some ⟨w.heap.size, 0, none⟩) 0 0) []) := hide ⟨hmade, by simp⟩
  have HBE := hide ((Below.refl w.heap.size w).alloc (Nat.le_refl _) (.cells #[] 5))
  have HN := hide (h.below HBE.out)
  obtain ⟨a, cap, rfl, hl, hm, hn, hb, hcell⟩ := id h
  obtain ⟨b, off, rfl, _⟩ := hcell hp
  have hsn := fun wx => Lib.run_eql_slice_nil (P := Tryd.prog) wx 22 5 (some ⟨b, off, none⟩) l.length cap 0 0 Tryd.underlying22
  clear hcell hb hn hmade h
  rename_i dead1
  clear dead1
  go_enter Tryd.func32, Tryd.ntmps32
  go_wp2_with (at_builtin; refine wpList_app rfl (.tmp 5) (.tmp 6) rfl w.heap.size _ _ [] l rfl rfl HM.out HN.out (by simpa using hr) (by simp) ?_)
  intro v' w1 ho hb' hs _
  have HR := hide ho
  have HR2 := hide (HBE.out.trans hb')
  clear ho hb'
  go_wp2
  go_ret
  exact ⟨_, rfl, HR.out, HR2.out⟩
end Go.Proofs.YtcjilmafdpnfeaaDoor
