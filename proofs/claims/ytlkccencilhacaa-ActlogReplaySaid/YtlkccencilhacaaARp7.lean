import Derived.Test.YtlkccencilhacaaARp6
import Derived.Test.YtlkccencilhacaaARp2
namespace Go.Proofs.Ytlkccencilhacaa
open Go.RowKit Go.Sort
open Num
set_option linter.unusedVariables false
set_option linter.unusedSimpArgs false
set_option maxRecDepth 20000

theorem rangeTake {w : World} {b : Nat} {cs : Array Value} {t : TypeId} {fr : Nat × Nat} {l : List Value} (h : w.heap[b]? = some (.cells cs t fr)) (hl : cs.toList.take l.length = l) : w.rangeAt b 0 l := fun j v hj => by
  have hjl : j < l.length := (List.getElem?_eq_some_iff.1 hj).1
  rw [cell_of_row _ _ _ _ _ _ h, Nat.zero_add]
  rw [← hl, List.getElem?_take_of_lt hjl] at hj
  simpa using hj
theorem isSome_no {p : Option Rc} (h : p.isSome = false) : p = none := by cases p <;> simp_all
set_option maxHeartbeats 2000000 in
theorem hblank_any {w : World} {g : Nat} {P : List (Option Rc)} (h : HPl w g P) (h2 : P.length ≤ 4) :
    Calls Try.prog 37 #[.slice (some ⟨g, 0, none⟩) P.length P.length] w (BoolP w (∀ p ∈ P, p = none)) := by
  have HH := hide h
  have HGL := hide ((Array.getElem?_eq_some_iff.1 h).1)
  clear h
  generalize hn : P.length = n at *
  have HN := hide hn
  clear hn
  go_enter Try.func37, Try.ntmps37
  go_wp2_with fail
  go_loopw [7] (fun x wr => ∃ i : Nat, i ≤ n ∧ x = .int .i64 (i : Int) ∧ Below w.heap.size w wr ∧ ∀ p ∈ P.take i, p = none) (fun x _ => n - (intOf x).toNat)
  case atStart => exact ⟨0, Nat.zero_le _, rfl, Below.refl _ _, fun p hp => by simp at hp⟩
  case round =>
    obtain ⟨i, hi, rfl, hb, ha⟩ := hrel
    have HB := hide hb
    have HA := hide ha
    clear hb ha
    by_cases hlt : i < n
    · obtain ⟨p, hp⟩ : ∃ p, P[i]? = some p := ⟨_, List.getElem?_eq_getElem (by rw [HN.out]; exact hlt)⟩
      have HR : Hid (wr.rangeAt g (i * 12) (plV p)) := hide ((HH.out.below HB.out HGL.out).range hp)
      obtain ⟨num, age, slots, c0, c1, c2, st, z0, z1, z2, z3, f, e1, -, e2, -⟩ := plV_lit p
      rw [e1] at HR
      have HS : Hid (f = false → ∀ q ∈ P.take (i + 1), q = none) := hide fun hf q hq => by
        have hl : i < P.length := by rw [HN.out]; exact hlt
        rw [List.take_succ_eq_append_getElem hl] at hq
        rcases List.mem_append.1 hq with hq | hq
        · exact HA.out q hq
        · rw [List.mem_singleton.1 hq]
          have : P[i] = p := by rw [List.getElem?_eq_getElem hl] at hp; exact Option.some.inj hp
          rw [this]
          exact isSome_no (by rw [e2, hf])
      have HM : Hid (f = true → ¬ ∀ q ∈ P, q = none) := hide fun hf hall => by
        have := hall p (List.mem_of_getElem? hp)
        rw [this, hf] at e2
        simp at e2
      have hil : (i : Int) < (n : Int) := by omega
      have HZ : Hid ((wr.alloc (.cells zplc 135)).heap[wr.heap.size]? = some (.cells zplc 135 (0, 0))) := hide (Go.heap_alloc_new _ _)
      have HBN : Hid (Below w.heap.size w (wr.alloc (.cells #[.int .u32 (num : Int), .int .i64 (age : Int), .int .i64 (slots : Int), .int .i64 c0, .int .i64 c1, .int .i64 c2, .int .i64 st, .int .i64 z0, .int .i64 z1, .int .i64 z2, .int .i64 z3, .bool f] 135))) := hide (HB.out.alloc HB.out.size _)
      clear e1 e2 hp HA
      cases f with
      | false =>
        go_wp2_with (first
          | refine wpList_load_mid rfl 135 (.tmp 9) rfl g (i * 12) rfl _ _ HR.out Try.underlying135 rfl placeSize ?_
          | (refine wpList_store_row rfl 135 (.tmp 4) (.tmp 10) rfl wr.heap.size _ rfl rfl 135 zplc HZ.out placeSize rfl (by first | kernel_rfl | simp [Value.oneCell']) ?_; rw [World.setRow_alloc_new]))
        go_roundw
        case rel => exact ⟨i + 1, by omega, by go_num, HBN.out, HS.out rfl⟩
        case measure => simp [intOf]; omega
      | true =>
        go_wp2_with (first
          | refine wpList_load_mid rfl 135 (.tmp 9) rfl g (i * 12) rfl _ _ HR.out Try.underlying135 rfl placeSize ?_
          | (refine wpList_store_row rfl 135 (.tmp 4) (.tmp 10) rfl wr.heap.size _ rfl rfl 135 zplc HZ.out placeSize rfl (by first | kernel_rfl | simp [Value.oneCell']) ?_; rw [World.setRow_alloc_new]))
        go_ret
        exact ⟨false, rfl, by simp only [Bool.false_eq_true, false_iff]; exact HM.out (by first | trivial | rfl), HBN.out⟩
    · have HE : Hid (∀ p ∈ P, p = none) := hide (by have := HA.out; rwa [List.take_of_length_le (by rw [HN.out]; omega)] at this)
      go_wp2_with fail
      go_ret
      exact ⟨true, rfl, by simp only [true_iff]; exact HE.out, HB.out⟩
/-- while endAt goes back -/
structure EaW (w wr : World) (P : List (Option Rc)) (num i : Nat) (bl : Bool) : Prop where
  be : Below w.heap.size w wr
  ok : ∀ b, b < i → ∀ r, pAt P (wd num b) = some r → r.num = wd num b ∧ ∀ b', b' < b → pAt P (wd num b') ≠ none
  bl : bl = true ↔ ∃ b, b < i ∧ pAt P (wd num b) = none
set_option maxHeartbeats 2000000 in
theorem hend_any {w : World} {g : Nat} {P : List (Option Rc)} (h : HPl w g P) (h1 : 1 ≤ P.length) (h2 : P.length ≤ 4) (nm : Nat) (hnm : nm < 4294967296) :
    Calls Try.prog 68 #[.slice (some ⟨g, 0, none⟩) P.length P.length, .int .u32 (nm : Int)] w (BoolP w (EndAt P nm)) := by
  have HAT : Hid (∀ x, Below w.heap.size w x → ∀ m, m < 4294967296 → _) := hide fun x (hx : Below w.heap.size w x) m (hm : m < 4294967296) => hat_any (h.below hx (Array.getElem?_eq_some_iff.1 h).1) h1 h2 m hm
  have HE0 : Hid (EaW w w P nm 0 false) := hide ⟨Below.refl _ _, fun b hb => by omega, by simp⟩
  have HED : Hid (EndAt P nm ↔ ∀ b, b < P.length → ∀ r, pAt P (wd nm b) = some r → r.num = wd nm b ∧ ∀ b', b' < b → pAt P (wd nm b') ≠ none) := hide Iff.rfl
  clear h h1
  generalize hn : P.length = n at *
  have HN := hide hn
  clear hn
  generalize EndAt P nm = ED at *
  go_enter Try.func68, Try.ntmps68
  go_wp2_with fail
  go_loopw [5, 11] (fun y x wr => ∃ i : Nat, ∃ bl : Bool, i ≤ n ∧ x = .int .i64 (i : Int) ∧ y = .bool bl ∧ EaW w wr P nm i bl) (fun _ x _ => n - (intOf x).toNat)
  case atStart => exact ⟨0, false, Nat.zero_le _, rfl, rfl, HE0.out⟩
  case round =>
    clear HE0
    obtain ⟨i, bl, hi, rfl, rfl, hea⟩ := hrel
    have HEA := hide hea
    clear hea
    by_cases hlt : i < n
    · have HCA := hide (HAT.out wr HEA.out.be (wd nm i) (by unfold wd; omega))
      have hil : (i : Int) < (n : Int) := by omega
      have hsb : IntKind.u32.wrap ((nm : Int) - (i : Int)) = ((wd nm i : Nat) : Int) := by unfold wd; simp [IntKind.wrap, IntKind.bits, IntKind.signed]; omega
      have hsb2 : ((nm : Int) - (i : Int)) % 4294967296 = ((wd nm i : Nat) : Int) := by unfold wd; omega
      have hci : IntKind.u32.wrap (i : Int) = (i : Int) := by simp [IntKind.wrap, IntKind.bits, IntKind.signed]; omega
      have hci2 : (i : Int) % 4294967296 = (i : Int) := by omega
      have HWD : Hid (wd nm i < 4294967296) := hide (by unfold wd; omega)
      obtain ⟨p, hp⟩ : ∃ p, pAt P (wd nm i) = p := ⟨_, rfl⟩
      obtain ⟨num, age, slots, c0, c1, c2, st, z0, z1, z2, z3, f, e1, e2, e3, -⟩ := plV_lit p
      rw [hp, e1] at HCA
      have HNX : Hid (∀ wy, Below w.heap.size w wy → (f = true → num = wd nm i ∧ bl = false) → EaW w wy P nm (i + 1) (bl || !f)) := hide fun wy hy hf => by
        refine ⟨hy, fun b hb r hr => ?_, ?_⟩
        · by_cases eb : b = i
          · subst eb
            rw [hp] at hr
            subst hr
            obtain ⟨q1, q2⟩ := hf (by rw [← e3]; rfl)
            refine ⟨by rw [← q1, ← e2]; rfl, fun b' hb' hnn => ?_⟩
            have := HEA.out.bl.2 ⟨b', hb', hnn⟩
            rw [q2] at this; cases this
          · exact HEA.out.ok b (by omega) r hr
        · rw [Bool.or_eq_true, HEA.out.bl]
          constructor
          · rintro (⟨b, q1, q2⟩ | q)
            · exact ⟨b, by omega, q2⟩
            · exact ⟨i, by omega, by rw [hp]; exact isSome_no (by rw [e3]; simpa using q)⟩
          · rintro ⟨b, q1, q2⟩
            by_cases eb : b = i
            · subst eb
              right
              rw [hp] at q2
              rw [q2] at e3
              simp [← e3]
            · exact .inl ⟨b, by omega, q2⟩
      have HNO : Hid (f = true → ¬ (num = wd nm i ∧ bl = false) → ¬ ED) := hide fun hf hne hE => by
        obtain ⟨r, rfl⟩ : ∃ r, p = some r := Option.isSome_iff_exists.1 (by rw [e3, hf])
        obtain ⟨q1, q2⟩ := HED.out.1 hE i hlt r hp
        refine hne ⟨by rw [← e2]; exact q1, ?_⟩
        cases hbl : bl with
        | false => rfl
        | true =>
          obtain ⟨b', q3, q4⟩ := HEA.out.bl.1 hbl
          exact absurd q4 (q2 b' q3)
      clear hp e1 e2 e3
      generalize wd nm i = nx at *
      have HZ : Hid (∀ wy : World, (wy.alloc (.cells zplc 135)).heap[wy.heap.size]? = some (.cells zplc 135 (0, 0))) := hide fun wy => Go.heap_alloc_new _ _
      have HBE := hide HEA.out.be
      clear HEA HED
      go_wp2_with (first
        | (go_at_call 69; refine HCA.out.mono ?_; rintro e wy ⟨rfl, hby⟩; have HBY := hide (HBE.out.trans (hby.mono HBE.out.size)); have HBZ := hide (HBY.out.alloc HBY.out.size (.cells #[.int .u32 (num : Int), .int .i64 (age : Int), .int .i64 (slots : Int), .int .i64 c0, .int .i64 c1, .int .i64 c2, .int .i64 st, .int .i64 z0, .int .i64 z1, .int .i64 z2, .int .i64 z3, .bool f] 135)); clear hby HCA)
        | (refine wpList_store_row rfl 135 (.tmp 8) (.tmp 20) rfl wy.heap.size _ rfl rfl 135 zplc (HZ.out _) placeSize rfl (by first | kernel_rfl | simp [Value.oneCell']) ?_; rw [World.setRow_alloc_new]; cases f <;> cases bl))
      all_goals clear HAT HN hnm HZ HBE
      · go_roundw
        case rel => exact ⟨i + 1, true, by omega, by go_num, rfl, HNX.out _ HBZ.out (fun h => by cases h)⟩
        case measure => simp [intOf]; omega
      · go_roundw
        case rel => exact ⟨i + 1, true, by omega, by go_num, rfl, HNX.out _ HBZ.out (fun h => by cases h)⟩
        case measure => simp [intOf]; omega
      · rename_i hne
        have hne : ¬ num = nx := by intro e; rw [e] at hne; simp at hne
        go_ret
        exact ⟨false, rfl, by simp only [Bool.false_eq_true, false_iff]; exact HNO.out (by first | trivial | rfl) (fun h => hne h.1), HBZ.out⟩
      · rename_i hne
        have hne : num = nx := by have : (num : Int) = (nx : Int) := by simpa using hne
                                  omega
        go_roundw
        case rel => exact ⟨i + 1, false, by omega, by go_num, rfl, HNX.out _ HBZ.out (fun _ => ⟨hne, by first | trivial | rfl⟩)⟩
        case measure => simp [intOf]; omega
      · go_ret
        exact ⟨false, rfl, by simp only [Bool.false_eq_true, false_iff]; exact HNO.out (by first | trivial | rfl) (fun h => by cases h.2), HBZ.out⟩
    · have HF : Hid (ED) := hide (HED.out.2 fun b hb => HEA.out.ok b (by omega))
      go_wp2_with fail
      go_ret
      exact ⟨true, rfl, by simp only [true_iff]; exact HF.out, HEA.out.be⟩
/-- what newest answers -/
def NewP (w : World) (P : List (Option Rc)) (e : Ending) (w' : World) : Prop := ((∃ r, Newest P r ∧ e = .returned (.tuple #[.agg (recI r), .bool true])) ∨ ((∀ r, ¬ Newest P r) ∧ e = .returned (.tuple #[.agg zrec, .bool false]))) ∧ Below w.heap.size w w'
structure NwW (w wr : World) (P : List (Option Rc)) (i : Nat) : Prop where
  be : Below w.heap.size w wr
  res : wr.heap[w.heap.size]? = some (.cells zrec 90 (0, 0))
  no : ∀ (j : Nat) (r : Rc), j < i → P[j]? = some (some r) → ¬ EndAt P r.num
theorem NwW.below {w x y : World} {P : List (Option Rc)} {i : Nat} (h : NwW w x P i) (hb : Below x.heap.size x y) : NwW w y P i :=
  ⟨h.be.trans (hb.mono h.be.size), (hb.block _ (Array.getElem?_eq_some_iff.1 h.res).1).trans h.res, h.no⟩
set_option maxHeartbeats 2000000 in
theorem hnew_any {w : World} {g : Nat} {P : List (Option Rc)} (h : HPl w g P) (h1 : 1 ≤ P.length) (h2 : P.length ≤ 4) (hnm : ∀ (i : Nat) (r : Rc), P[i]? = some (some r) → r.num < 4294967296) :
    Calls Try.prog 39 #[.slice (some ⟨g, 0, none⟩) P.length P.length] w (NewP w P) := by
  have HGL := hide ((Array.getElem?_eq_some_iff.1 h).1)
  have HH := hide h
  have HNM := hide hnm
  have HEN : Hid (∀ x, Below w.heap.size w x → ∀ m, m < 4294967296 → _) := hide fun x (hx : Below w.heap.size w x) m (hm : m < 4294967296) => hend_any (h.below hx (Array.getElem?_eq_some_iff.1 h).1) h1 h2 m hm
  have HW0 : Hid (NwW w (w.alloc (.cells zrec 90)) P 0) := hide ⟨(Below.refl _ _).alloc (Nat.le_refl _) _, Go.heap_alloc_new _ _, fun j r hj => by omega⟩
  clear h h1 hnm
  generalize hn : P.length = n at *
  have HN := hide hn
  clear hn
  go_enter Try.func39, Try.ntmps39
  go_wp2_with fail
  go_loopw [8] (fun x wr => ∃ i : Nat, i ≤ n ∧ x = .int .i64 (i : Int) ∧ NwW w wr P i) (fun x _ => n - (intOf x).toNat)
  case atStart => exact ⟨0, Nat.zero_le _, rfl, HW0.out⟩
  case round =>
    clear HW0
    obtain ⟨i, hi, rfl, hea⟩ := hrel
    have HEA := hide hea
    clear hea
    by_cases hlt : i < n
    · obtain ⟨p, hp⟩ : ∃ p, P[i]? = some p := ⟨_, List.getElem?_eq_getElem (by rw [HN.out]; exact hlt)⟩
      have HR : Hid (wr.rangeAt g (i * 12) (plV p)) := hide ((HH.out.below HEA.out.be HGL.out).range hp)
      obtain ⟨num, age, slots, c0, c1, c2, st, z0, z1, z2, z3, f, e1, e2, e3, e4⟩ := plV_lit p
      rw [e1] at HR
      have hil : (i : Int) < (n : Int) := by omega
      have HZ : Hid ((wr.alloc (.cells zplc 135)).heap[wr.heap.size]? = some (.cells zplc 135 (0, 0))) := hide (Go.heap_alloc_new _ _)
      have HBN : Hid (NwW w (wr.alloc (.cells #[.int .u32 (num : Int), .int .i64 (age : Int), .int .i64 (slots : Int), .int .i64 c0, .int .i64 c1, .int .i64 c2, .int .i64 st, .int .i64 z0, .int .i64 z1, .int .i64 z2, .int .i64 z3, .bool f] 135)) P i ∧ (wr.alloc (.cells #[.int .u32 (num : Int), .int .i64 (age : Int), .int .i64 (slots : Int), .int .i64 c0, .int .i64 c1, .int .i64 c2, .int .i64 st, .int .i64 z0, .int .i64 z1, .int .i64 z2, .int .i64 z3, .bool f] 135)).heap[wr.heap.size]? = some (.cells #[.int .u32 (num : Int), .int .i64 (age : Int), .int .i64 (slots : Int), .int .i64 c0, .int .i64 c1, .int .i64 c2, .int .i64 st, .int .i64 z0, .int .i64 z1, .int .i64 z2, .int .i64 z3, .bool f] 135 (0, 0)) ∧ w.heap.size < wr.heap.size) := hide ⟨HEA.out.below ((Below.refl _ _).alloc (Nat.le_refl _) _), Go.heap_alloc_new _ _, (Array.getElem?_eq_some_iff.1 HEA.out.res).1⟩
      have HNX : Hid (∀ wy, NwW w wy P i → (f = true → ¬ EndAt P num) → NwW w wy P (i + 1)) := hide fun wy hy hf => ⟨hy.be, hy.res, fun j r hj hr => by
        by_cases ej : j = i
        · subst ej
          rw [hp] at hr
          have hr := Option.some.inj hr
          subst hr
          have q := hf (by rw [← e3]; rfl)
          rw [← e2] at q
          exact q
        · exact hy.no j r (by omega) hr⟩
      have HYE : Hid (∀ wy, NwW w wy P i → f = true → EndAt P num → ∃ r, Newest P r ∧ recI r = #[.int .u32 (num : Int), .int .i64 (age : Int), .int .i64 (slots : Int), .int .i64 c0, .int .i64 c1, .int .i64 c2, .int .i64 st, .int .i64 z0, .int .i64 z1, .int .i64 z2, .int .i64 z3]) := hide fun wy hy hf hE => by
        obtain ⟨r, rfl⟩ : ∃ r, p = some r := Option.isSome_iff_exists.1 (by rw [e3, hf])
        exact ⟨r, ⟨i, hp, by rw [← e2] at hE; exact hE, hy.no⟩, e4⟩
      have HLT : Hid (f = true → num < 4294967296) := hide fun hf => by
        obtain ⟨r, rfl⟩ : ∃ r, p = some r := Option.isSome_iff_exists.1 (by rw [e3, hf])
        rw [← e2]; exact HNM.out i r hp
      clear e1 e2 e3 e4 hp HEA
      cases f with
      | false =>
        go_wp2_with (first
          | refine wpList_load_mid rfl 135 (.tmp 10) rfl g (i * 12) rfl _ _ HR.out Try.underlying135 rfl placeSize ?_
          | (refine wpList_store_row rfl 135 (.tmp 5) (.tmp 11) rfl wr.heap.size _ rfl rfl 135 zplc HZ.out placeSize rfl (by first | kernel_rfl | simp [Value.oneCell']) ?_; rw [World.setRow_alloc_new]))
        go_roundw
        case rel => exact ⟨i + 1, by omega, by go_num, HNX.out _ HBN.out.1 (fun h => by first | (cases h; done) | exact h.elim)⟩
        case measure => simp [intOf]; omega
      | true =>
        have HCE := hide (HEN.out _ HBN.out.1.be num (HLT.out rfl))
        go_wp2_with (first
          | refine wpList_load_mid rfl 135 (.tmp 10) rfl g (i * 12) rfl _ _ HR.out Try.underlying135 rfl placeSize ?_
          | (refine wpList_store_row rfl 135 (.tmp 5) (.tmp 11) rfl wr.heap.size _ rfl rfl 135 zplc HZ.out placeSize rfl (by first | kernel_rfl | simp [Value.oneCell']) ?_; rw [World.setRow_alloc_new])
          | (refine wpList_load_mid rfl 90 (.tmp 21) rfl wr.heap.size 0 rfl [.int .u32 (num : Int), .int .i64 (age : Int), .int .i64 (slots : Int), .int .i64 c0, .int .i64 c1, .int .i64 c2, .int .i64 st, .int .i64 z0, .int .i64 z1, .int .i64 z2, .int .i64 z3] _ HRG.out Try.underlying90 rfl recSize ?_)
          | (refine wpList_store_row rfl 90 (.tmp 2) (.tmp 22) rfl w.heap.size #[.int .u32 (num : Int), .int .i64 (age : Int), .int .i64 (slots : Int), .int .i64 c0, .int .i64 c1, .int .i64 c2, .int .i64 st, .int .i64 z0, .int .i64 z1, .int .i64 z2, .int .i64 z3] rfl rfl 90 zrec HBY.out.res recSize rfl (by first | kernel_rfl | simp [Value.oneCell']) ?_)
          | (go_at_call 68; refine HCE.out.mono ?_; rintro e wy ⟨b, rfl, hb, hby⟩; have HBY := hide (HBN.out.1.below hby); have HRY := hide ((hby.block _ (Array.getElem?_eq_some_iff.1 HBN.out.2.1).1).trans HBN.out.2.1); have HEB := hide hb; have HRG : Hid (wy.rangeAt wr.heap.size 0 [.int .u32 (num : Int), .int .i64 (age : Int), .int .i64 (slots : Int), .int .i64 c0, .int .i64 c1, .int .i64 c2, .int .i64 st, .int .i64 z0, .int .i64 z1, .int .i64 z2, .int .i64 z3]) := hide (rangeTake HRY.out rfl); clear hb hby HCE; cases b))
        · go_roundw
          case rel => exact ⟨i + 1, by omega, by go_num, HNX.out _ HBY.out (fun _ hE => by have := HEB.out.2 hE; first | (cases this; done) | exact this.elim)⟩
          case measure => simp [intOf]; omega
        · obtain ⟨r, hr1, hr2⟩ := HYE.out _ HBY.out (by first | trivial | rfl) (HEB.out.1 (by first | trivial | rfl))
          have HF := hide (setRow_heap _ w.heap.size zrec #[.int .u32 (num : Int), .int .i64 (age : Int), .int .i64 (slots : Int), .int .i64 c0, .int .i64 c1, .int .i64 c2, .int .i64 st, .int .i64 z0, .int .i64 z1, .int .i64 z2, .int .i64 z3] 90 (0, 0) HBY.out.res)
          refine bodyPost_ret (results_row_tmp1 (fn := Try.f39) (p := 2) (u := 3) (ty := 90) (by kernel_rfl) _ _ w.heap.size 90 _ (0, 0) _ rfl HF.out Try.underlying90 rfl recSize) rfl ⟨.inl ⟨r, hr1, by rw [hr2]; rfl⟩, HBY.out.be.trans ⟨rfl, rfl, rfl, Nat.le_of_eq (setRow_size ..).symm, fun k hk => setRow_other _ _ _ _ (by omega)⟩⟩
    · have HF : Hid (∀ r, ¬ Newest P r) := hide fun r ⟨j, hj1, hj2, _⟩ => HEA.out.no j r (by have := (List.getElem?_eq_some_iff.1 hj1).1; rw [HN.out] at this; omega) hj1 hj2
      go_wp2_with (refine wpList_store_row rfl 90 (.tmp 2) (.tmp 24) rfl w.heap.size zrec rfl rfl 90 zrec HEA.out.res recSize rfl (by first | kernel_rfl | simp [Value.oneCell']) ?_)
      have HG := hide (setRow_heap _ w.heap.size zrec zrec 90 (0, 0) HEA.out.res)
      refine bodyPost_ret (results_row_tmp1 (fn := Try.f39) (p := 2) (u := 3) (ty := 90) (by kernel_rfl) _ _ w.heap.size 90 _ (0, 0) _ rfl HG.out Try.underlying90 rfl recSize) rfl ⟨.inr ⟨HF.out, rfl⟩, HEA.out.be.trans ⟨rfl, rfl, rfl, Nat.le_of_eq (setRow_size ..).symm, fun k hk => setRow_other _ _ _ _ (by omega)⟩⟩
end Go.Proofs.Ytlkccencilhacaa
