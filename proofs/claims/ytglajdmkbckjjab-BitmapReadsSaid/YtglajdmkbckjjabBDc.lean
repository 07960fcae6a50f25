import Derived.Test.YtglajdmkbckjjabBSt
import Derived.Test.YtglajdmkbckjjabBWords
namespace Go.Proofs.Ytglajdmkbckjjab
open Go.RowKit
set_option linter.unusedVariables false
set_option linter.unusedSimpArgs false
set_option maxRecDepth 20000

theorem CSl.blk {w : World} {cv : Value} {c : List Nat} (h : CSl w cv c) {w' : World} (hb : Below w.heap.size w w') : CSl w' cv c := by
  obtain ⟨a, cap, rfl, h1, h2, h3, h4⟩ := h
  refine ⟨a, cap, rfl, h1, h2, h3, fun h0 => ?_⟩
  obtain ⟨b, off, rfl, hc⟩ := h4 h0
  exact ⟨b, off, rfl, fun i hi => by rw [World.cell?_of_block (hb.block b (World.block_lt_of_cell? w _ (hc i hi)))]; exact hc i hi⟩
/-- a bitmap that is read, and its reader -/
structure RB (w wr : World) (p : Nat) (cv : Value) (c : List Nat) (T : Nat) (L : BL) (n B : Nat) : Prop where
  rd : RdM wr p cv T
  sl : CSl w cv c
  bm : BRep wr L n B
  bel : Below w.heap.size w wr
  pN : w.heap.size ≤ p
  lN : ∀ b, L.U b → w.heap.size ≤ b ∧ b ≠ p
theorem RB.rs {w wr : World} {p T n B : Nat} {cv : Value} {c : List Nat} {L : BL} (h : RB w wr p cv c T L n B) : RS wr wr p cv c T := ⟨h.rd, h.sl.blk h.bel, Chg.refl _ _⟩
theorem RB.took {w wr w' : World} {p T T' n B : Nat} {cv : Value} {c : List Nat} {L : BL} (h : RB w wr p cv c T L n B) (hs : RS wr w' p cv c T') : RB w w' p cv c T' L n B :=
  ⟨hs.rd, h.sl, h.bm.chg hs.chg fun b hb => (h.lN b hb).2, h.bel.trans (hs.chg.below h.bel.size fun b e => by rw [e]; exact h.pN), h.pN, h.lN⟩
theorem RB.set {w wr w' : World} {p T n B B' : Nat} {cv : Value} {c : List Nat} {L : BL} (h : RB w wr p cv c T L n B) (hb : BRep w' L n B') (hc : Chg L.U wr w') : RB w w' p cv c T L n B' := by
  refine ⟨?_, h.sl, hb, h.bel.trans (hc.below h.bel.size fun b hU => (h.lN b hU).1), h.pN, h.lN⟩
  exact (hc.keep p (Array.getElem?_eq_some_iff.1 h.rd).1 fun hU => (h.lN p hU).2 rfl).trans h.rd
theorem rdR_go {n f p : Nat} {s : Bool} {B : Nat} (hp : p < n) (ds : List Bool) : rdR n (f + 1) p s B ds = bndR (stR (n - p)) (fun x _ => rdR n f (p + x) (!s) (if s then setR B p (p + x) else B)) ds := by
  conv => lhs; unfold rdR
  rw [if_pos hp]
theorem rdR_end {n f p : Nat} {s : Bool} {B : Nat} (hp : ¬ p < n) (ds : List Bool) : rdR n (f + 1) p s B ds = (0, some B) := by
  conv => lhs; unfold rdR
  rw [if_neg hp]
  rfl
theorem st_le {most : Nat} (hm : 1 ≤ most) {ds : List Bool} {c x : Nat} (h : stR most ds = (c, some x)) : 1 ≤ x ∧ x ≤ most := (st_is hm h).2.2
def readR (n : Nat) : Rd Nat := bndR dgR fun d _ => rdR n (n + 1) 0 d 0
/-- what is left to read -/
def Stt (R : Nat × Option Nat) (n : Nat) (ok s : Bool) (pl T B : Nat) (c : List Nat) : Prop := if ok = true then ∃ f, n - pl < f ∧ Lft R T (rdR n f pl s B ((digs c).drop T)) else R = (T, none)
theorem stt_start {n : Nat} (c : List Nat) : Stt (readR n (digs c)) n (dgR (digs c)).2.isSome ((dgR (digs c)).2.getD false) 0 1 0 c := by
  unfold Stt
  cases hd : digs c with
  | nil =>
    rw [if_neg (by simp [dgR])]
    rfl
  | cons d l =>
    rw [if_pos (by rfl)]
    refine ⟨n + 1, by omega, ?_⟩
    unfold Lft readR
    rw [bndR_some (c := 1) (a := d) rfl]
    rfl
theorem stt_go {R : Nat × Option Nat} {n pl T B : Nat} {s : Bool} {c : List Nat} (h : Stt R n true s pl T B c) (hp : pl < n) : (∀ k, stR (n - pl) ((digs c).drop T) = (k, none) → Stt R n false (!s) pl (T + k) B c) ∧ (∀ k x, stR (n - pl) ((digs c).drop T) = (k, some x) → Stt R n true (!s) (pl + x) (T + k) (if s then setR B pl (pl + x) else B) c) := by
  unfold Stt at h
  rw [if_pos rfl] at h
  obtain ⟨f, hf, hL⟩ := h
  obtain ⟨f, rfl⟩ : ∃ g, f = g + 1 := ⟨f - 1, by omega⟩
  unfold Lft at hL
  rw [rdR_go hp] at hL
  refine ⟨fun k hk => ?_, fun k x hk => ?_⟩
  · rw [bndR_none hk] at hL
    unfold Stt
    rw [if_neg (by simp)]
    exact hL
  · rw [bndR_some hk] at hL
    have := (st_le (by omega) hk).1
    unfold Stt
    rw [if_pos rfl]
    refine ⟨f, by omega, ?_⟩
    unfold Lft
    rw [hL, List.drop_drop]
    exact Prod.ext (by show T + (k + _) = T + k + _; omega) rfl
theorem stt_end {R : Nat × Option Nat} {n pl T B : Nat} {s : Bool} {c : List Nat} (h : Stt R n true s pl T B c) (hp : ¬ pl < n) : R = (T, some B) := by
  unfold Stt at h
  rw [if_pos rfl] at h
  obtain ⟨f, hf, hL⟩ := h
  obtain ⟨f, rfl⟩ : ∃ g, f = g + 1 := ⟨f - 1, by omega⟩
  unfold Lft at hL
  rw [rdR_end hp] at hL
  exact hL
set_option maxHeartbeats 2000000 in
theorem read_any {w w1 : World} {p n : Nat} {cv : Value} {c : List Nat} {L : BL} (h : RB w w1 p cv c 0 L n 0) (hc : c.length ≤ 150000000000000) :
    Calls Try.prog 13 #[PB L, .pointer (some ⟨p, 0, none⟩)] w1 fun e w' => e = .returned (.bool (readR n (digs c)).2.isSome) ∧ ∃ B, RB w w' p cv c (readR n (digs c)).1 L n B ∧ ((readR n (digs c)).2.isSome = true → (readR n (digs c)).2 = some B) := by
  have hst := stt_start (n := n) c
  have HD := hide (h.rs.digit (by decide))
  rw [List.drop_zero] at HD
  have hpos : (dgR (digs c)).2.isSome = true → 1 ≤ 8 * c.length := fun hs => by
    rw [← digs_len]
    cases hd : digs c with
    | nil => rw [hd] at hs; cases hs
    | cons d l => simp
  obtain ⟨R, hR⟩ : ∃ R, readR n (digs c) = R := ⟨_, rfl⟩
  rw [hR] at hst ⊢
  have HST := hide hst
  have HH := hide h
  have hn := h.bm.n2
  have hn1 := h.bm.n1
  clear hR h hst
  generalize (dgR (digs c)).2 = o at *
  generalize o.isSome = okb at *
  generalize o.getD false = dv at *
  have hset : (((dv.toNat : Nat) : Int) == 1) = dv := by cases dv <;> rfl
  have HLEN := hide hc
  have HPOS := hide hpos
  clear hc hpos
  unfold PB
  go_enter Try.func13, Try.ntmps13
  go_wp2_with (go_at_call 25; refine HD.out.mono ?_; clear HD; rintro e w' ⟨rfl, h8⟩; have H8 := hide (HH.out.took h8); clear h8)
  clear HH
  go_loopw [6, 7, 8] (fun z6 z7 z8 wr => ∃ (ok s : Bool) (pl T B : Nat), z6 = .bool ok ∧ z7 = .bool s ∧ z8 = .int .i64 (pl : Int) ∧ pl ≤ n ∧ Hid ((ok = true → T ≤ 8 * c.length) ∧ T ≤ 8 * c.length + 1) ∧ Hid (RB w wr p cv c T L n B) ∧ Hid (Stt R n ok s pl T B c)) (fun z6 _ z8 _ => 2 * (n - (intOf z8).toNat) + (match z6 with | .bool b => b.toNat | _ => 0))
  case atStart => exact ⟨okb, dv, 0, 1, 0, rfl, rfl, rfl, by omega, hide ⟨HPOS.out, by omega⟩, H8, HST⟩
  case round =>
    clear HST H8 hset HPOS
    obtain ⟨ok, s, pl, T, B, rfl, rfl, rfl, hpl, HT, HB, HS⟩ := hrel
    cases ok with
    | false =>
      have HR2 : Hid (R = (T, none)) := hide HS.out
      clear HS
      go_wp2_with fail
      go_ret
      rw [HR2.out]
      exact ⟨rfl, B, HB.out, fun h => by cases h⟩
    | true =>
      have c0 := HB.out.bm.c0
      by_cases hlt : pl < n
      · have hli : (pl : Int) < (n : Int) := by omega
        have hsub : (n : Int) - (pl : Int) = ((n - pl : Nat) : Int) := by omega
        have HST := hide (stretch_any HB.out.rs (by have := HT.out.2; have := HLEN.out; omega) (n - pl) (by omega) (by omega))
        obtain ⟨hgo1, hgo2⟩ := stt_go HS.out hlt
        have HG1 := hide hgo1
        have HG2 := hide hgo2
        have hle : ∀ k x, stR (n - pl) ((digs c).drop T) = (k, some x) → 1 ≤ x ∧ pl + x ≤ n ∧ T + k ≤ 8 * c.length := fun k x hk => by
          have h1 := st_le (by omega) hk
          have h2 := (good_st (n - pl)).sle _ _ _ hk
          rw [List.length_drop, digs_len] at h2
          have := HT.out.1 rfl
          omega
        have hle2 : T + (stR (n - pl) ((digs c).drop T)).1 ≤ 8 * c.length + 1 := by
          have := HT.out.1 rfl
          have h2 := (good_st (n - pl)).le ((digs c).drop T)
          rw [List.length_drop, digs_len] at h2
          omega
        have HLE := hide hle
        have HLE2 := hide hle2
        clear hgo1 hgo2 hle hle2 HS
        generalize stR (n - pl) ((digs c).drop T) = q at *
        obtain ⟨k, o⟩ := q
        cases o with
        | none =>
          simp only [Option.getD, Option.isSome] at HST
          have HS2 := hide (HG1.out k rfl)
          clear HG1 HG2 HLE
          go_wp2_with (go_at_call 26; refine HST.out.mono ?_; clear HST; rintro e w' ⟨rfl, h8⟩; have H8 := hide (HB.out.took h8); clear h8)
          go_roundw
          case rel => exact ⟨false, !s, pl, T + k, B, rfl, rfl, by go_num, hpl, hide ⟨(fun h => by cases h), HLE2.out⟩, H8, HS2⟩
          case measure => simp [intOf]
        | some x =>
          simp only [Option.getD, Option.isSome] at HST
          have HS2 := hide (HG2.out k x rfl)
          obtain ⟨x1, x2, x3⟩ := HLE.out k x rfl
          have HX3 := hide x3
          clear HG1 HG2 HLE HLE2 x3
          cases s with
          | true =>
            go_wp2_with (first
              | (go_at_call 26; refine HST.out.mono ?_; clear HST; rintro e w' ⟨rfl, h8⟩; have H8 := hide (HB.out.took h8); have HSR := hide (SetRange_any (a := pl) (c := x) H8.out.bm x2); unfold PB at HSR; clear h8)
              | (go_at_call 27; refine HSR.out.mono ?_; clear HSR; rintro e w9 ⟨rfl, hb9, hc9⟩; have H9 := hide (H8.out.set hb9 hc9); clear hb9 hc9))
            go_roundw
            case rel => exact ⟨true, false, pl + x, T + k, _, rfl, rfl, by go_num, x2, hide ⟨fun _ => HX3.out, by have := HX3.out; omega⟩, H9, HS2⟩
            case measure => simp [intOf]; omega
          | false =>
            go_wp2_with (first
              | (go_at_call 26; refine HST.out.mono ?_; clear HST; rintro e w' ⟨rfl, h8⟩; have H8 := hide (HB.out.took h8); clear h8))
            go_roundw
            case rel => exact ⟨true, true, pl + x, T + k, _, rfl, rfl, by go_num, x2, hide ⟨fun _ => HX3.out, by have := HX3.out; omega⟩, H8, HS2⟩
            case measure => simp [intOf]; omega
      · have hli : ¬ (pl : Int) < (n : Int) := by omega
        have HR2 := hide (stt_end HS.out hlt)
        clear HS
        go_wp2_with fail
        go_ret
        rw [HR2.out]
        exact ⟨rfl, B, HB.out, fun _ => rfl⟩
end Go.Proofs.Ytglajdmkbckjjab
