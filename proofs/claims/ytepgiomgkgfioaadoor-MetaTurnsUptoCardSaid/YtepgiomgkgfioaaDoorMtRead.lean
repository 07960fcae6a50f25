import Derived.Test.YtepgiomgkgfioaaDoorMtCur
import Derived.Test.YtepgiomgkgfioaaDoorHex
namespace Go.Proofs.YtepgiomgkgfioaaDoor
open Go.RowKit Go.Lib
set_option linter.unusedVariables false
set_option linter.unusedSimpArgs false
set_option maxRecDepth 20000

def fault (n : Int) : List PanicEntry := [{ v := .iface 32 (.int .i64 n), recovered := false }]
theorem demand_yes (w : World) (n : Int) : Calls Tryd.prog 43 #[.bool true, .int .i64 n] w fun e w' => e = .returned (.tuple #[]) ∧ w' = w := by
  go_enter Tryd.func43, Tryd.ntmps43
  go_wp2_with fail
  go_end0
  exact ⟨rfl, rfl⟩
theorem demand_no (w : World) (n : Int) : Calls Tryd.prog 43 #[.bool false, .int .i64 n] w fun e w' => e = .panicked (fault n) ∧ w' = w := by
  unfold fault
  go_enter Tryd.func43, Tryd.ntmps43
  go_wp2_with fail
  exact ⟨rfl, rfl, rfl⟩
def letB : ByteArray := { data := #[82, 69, 80, 76, 73, 67, 65, 49] }
theorem lets_str {l : List Nat} (h : ∀ x ∈ l, x < 256) : ((⟨(l.map UInt8.ofNat).toArray⟩ : ByteArray) = letB) ↔ l = lets := by
  constructor
  · intro e
    have e1 : (l.map UInt8.ofNat) = lets.map UInt8.ofNat := by
      have := congrArg (fun b : ByteArray => b.data.toList) e
      simpa [letB, lets] using this
    have e2 : (l.map UInt8.ofNat).map UInt8.toNat = (lets.map UInt8.ofNat).map UInt8.toNat := by rw [e1]
    rw [List.map_map, List.map_map] at e2
    have e3 : l.map (UInt8.toNat ∘ UInt8.ofNat) = l.map id := List.map_congr_left fun x hx => by simp [UInt8.toNat_ofNat']; have := h x hx; omega
    rw [e3, List.map_id] at e2
    rw [e2]
    rfl
  · rintro rfl
    rfl
theorem toList_loop (bs : ByteArray) : ∀ n i r, bs.size - i = n → ByteArray.toList.loop bs i r = r.reverse ++ bs.data.toList.drop i := by
  intro n
  induction n with
  | zero =>
    intro i r h
    have h' : bs.data.size ≤ i := by have : bs.size = bs.data.size := rfl; omega
    rw [ByteArray.toList.loop, if_neg (by omega), List.drop_eq_nil_of_le (by simpa using h'), List.append_nil]
  | succ n ih =>
    intro i r h
    have hs : bs.size = bs.data.size := rfl
    have hi : i < bs.data.size := by omega
    rw [ByteArray.toList.loop, if_pos (by omega), ih (i + 1) _ (by omega)]
    have : bs.data.toList.drop i = bs.data.toList[i]'(by simpa using hi) :: bs.data.toList.drop (i + 1) := List.drop_eq_getElem_cons (by simpa using hi)
    rw [this]
    have hg : bs.get! i = bs.data[i] := by
      cases bs
      simp only [ByteArray.get!]
      exact getElem!_pos _ _ _
    simp [hg]
theorem toList_data (bs : ByteArray) : bs.toList = bs.data.toList := by
  have := toList_loop bs _ 0 [] rfl
  simpa [ByteArray.toList] using this
theorem letB_no {T : ByteArray} (h : ¬ T = letB) : (T.toList == [82, 69, 80, 76, 73, 67, 65, 49]) = false := by
  rw [toList_data, beq_eq_false_iff_ne]
  intro e
  apply h
  have : T.data = #[82, 69, 80, 76, 73, 67, 65, 49] := by
    apply Array.ext'
    exact e
  cases T
  simp only [letB]
  congr
def CurPost (w : World) (rb b off cap : Nat) (l : List Nat) (w' : World) : Prop := Cur w' rb b off cap l ∧ But rb w w'
theorem letters_yes (w : World) (rb b off cap : Nat) (l : List Nat) (h : Cur w rb b off cap l) (hk : 8 < l.length) (hl : l.take 8 = lets) : Calls Tryd.prog 42 #[.pointer (some ⟨rb, 0, none⟩)] w fun e w' => e = .returned (.tuple #[]) ∧ CurPost w rb b (off + 8) (cap - 8) (l.drop 8) w' := by
  have HTK := hide (take_any w rb b off cap 8 l h hk)
  have HS := hide (h.step 8 (by omega))
  have HBU := hide (But.setCell rb 0 w (.slice (some ⟨b, off + 8, none⟩) (l.length - 8) (cap - 8)))
  have hsl : BSl (w.setCell ⟨rb, 0, none⟩ (.slice (some ⟨b, off + 8, none⟩) (l.length - 8) (cap - 8))) (.slice (some ⟨b, off, none⟩) 8 cap) (l.take 8) := by
    have hle := h.le
    refine ⟨_, cap, by simp; omega, by simp; omega, hle.2, by simp, fun x hx => h.bytes x (List.mem_of_mem_take hx), fun _ => ⟨b, off, rfl, fun i hi => ?_⟩⟩
    exact HBU.out.cell (h.part 8 (by omega) i (by simp at hi; omega)) h.ne
  have hcv := conv_bytes hsl
  rw [(lets_str fun x hx => h.bytes x (List.mem_of_mem_take hx)).2 hl] at hcv
  generalize w.setCell ⟨rb, 0, none⟩ (.slice (some ⟨b, off + 8, none⟩) (l.length - 8) (cap - 8)) = w1 at *
  clear h hsl
  unfold letB at hcv
  go_enter Tryd.func42, Tryd.ntmps42
  go_wp2_with (first
    | (go_at_call 51; refine HTK.out.mono ?_; rintro e w2 ⟨rfl, rfl⟩)
    | (go_at_call 43; refine (demand_yes _ _).mono ?_; rintro e w3 ⟨rfl, rfl⟩))
  go_end0
  exact ⟨rfl, HS.out, HBU.out⟩
theorem letters_no (w : World) (rb b off cap : Nat) (l : List Nat) (h : Cur w rb b off cap l) (hk : 8 < l.length) (hl : l.take 8 ≠ lets) : Calls Tryd.prog 42 #[.pointer (some ⟨rb, 0, none⟩)] w fun e w' => e = .panicked (fault 51) ∧ CurPost w rb b (off + 8) (cap - 8) (l.drop 8) w' := by
  have HTK := hide (take_any w rb b off cap 8 l h hk)
  have HS := hide (h.step 8 (by omega))
  have HBU := hide (But.setCell rb 0 w (.slice (some ⟨b, off + 8, none⟩) (l.length - 8) (cap - 8)))
  have hsl : BSl (w.setCell ⟨rb, 0, none⟩ (.slice (some ⟨b, off + 8, none⟩) (l.length - 8) (cap - 8))) (.slice (some ⟨b, off, none⟩) 8 cap) (l.take 8) := by
    have hle := h.le
    refine ⟨_, cap, by simp; omega, by simp; omega, hle.2, by simp, fun x hx => h.bytes x (List.mem_of_mem_take hx), fun _ => ⟨b, off, rfl, fun i hi => ?_⟩⟩
    exact HBU.out.cell (h.part 8 (by omega) i (by simp at hi; omega)) h.ne
  have hcv := conv_bytes hsl
  have hne : ¬ ((⟨((l.take 8).map UInt8.ofNat).toArray⟩ : ByteArray) = letB) := fun e => hl ((lets_str fun x hx => h.bytes x (List.mem_of_mem_take hx)).1 e)
  generalize (⟨((l.take 8).map UInt8.ofNat).toArray⟩ : ByteArray) = T at *
  have hne := letB_no hne
  generalize w.setCell ⟨rb, 0, none⟩ (.slice (some ⟨b, off + 8, none⟩) (l.length - 8) (cap - 8)) = w1 at *
  clear h hsl hl
  unfold fault
  go_enter Tryd.func42, Tryd.ntmps42
  go_wp2_with (first
    | (go_at_call 51; refine HTK.out.mono ?_; rintro e w2 ⟨rfl, rfl⟩)
    | (go_at_call 43; refine (demand_no _ _).mono ?_; unfold fault; rintro e w3 ⟨rfl, rfl⟩))
  exact ⟨rfl, rfl, HS.out, HBU.out⟩
end Go.Proofs.YtepgiomgkgfioaaDoor
