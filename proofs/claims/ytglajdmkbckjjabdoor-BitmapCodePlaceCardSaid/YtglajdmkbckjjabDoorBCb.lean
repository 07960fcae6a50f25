import Derived.Test.YtglajdmkbckjjabDoorBEn
import Derived.Test.YtglajdmkbckjjabDoorBDe
import Derived.Test.YtglajdmkbckjjabDoorBCopied
import Derived.Test.YtglajdmkbckjjabDoorBHelp
namespace Go.Proofs.YtglajdmkbckjjabDoor
open Go.RowKit Go.Shelf
set_option linter.unusedVariables false
set_option linter.unusedSimpArgs false
set_option maxRecDepth 20000

theorem can_true {n : Int} {l : List Nat} (h : canB n l = true) : ∃ m : Nat, n = (m : Int) ∧ 1 ≤ m ∧ m ≤ 65536 ∧ cwErr m l = 0 := by
  have h' := of_decide_eq_true h
  exact ⟨n.toNat, by omega, by omega, by omega, h'.2.2⟩

theorem own_csl {w : World} {b : Nat} {cv : Value} {c : List Nat} (h : w.ownsRow b 5 1 cv c.length (c.map byV)) (hb : ∀ x ∈ c, x < 256) : CSl w cv c := by
  rcases h.2 with ⟨rfl, hz⟩ | ⟨g, cap, cur, rfl, _, hh, h1, h2, _⟩
  · exact ⟨none, 0, by rw [hz], by omega, Nat.zero_le _, hb, fun h => by omega⟩
  · refine ⟨_, _, rfl, h1, h2, hb, fun _ => ⟨g, 0, rfl, fun i hi => ?_⟩⟩
    have := h.cells (g := g) rfl i (byV (c.getD i 0)) (by simp [List.getD, hi])
    rw [Addr.add_lit] at this
    simpa [byV] using this
theorem wrt_encF {c : List Nat} {B n : Nat} (h : Wrt c (encD B n)) : digs c = encF B n := h.2
theorem dOut_enc {c : List Nat} {B n : Nat} (h1 : 1 ≤ n) (h2 : n ≤ 65536) (hB : B < 2 ^ n) (h : Wrt c (encD B n)) : dOut n c = (some B, 0) := by
  unfold dOut
  have e := dec_of h1 hB h2 []
  rw [List.append_nil, ← wrt_encF h] at e
  rw [e, digs_len]
  simp
theorem enc_pos {c : List Nat} {B n : Nat} (h : Wrt c (encD B n)) : 0 < c.length ∧ (c.getD 0 0).testBit 7 = B.testBit 0 := by
  have hl := h.len
  have h0 : 0 < c.length := by
    rw [hl, encD, List.length_cons]
    omega
  refine ⟨h0, ?_⟩
  have hg := digs_get c 0 (by simpa using h0)
  rw [h.2] at hg
  simpa [encD] using hg.symm
theorem enc_open {w : World} {b : Nat} {cv : Value} {c : List Nat} {B n : Nat} (ho : w.ownsRow b 5 1 cv c.length (c.map byV)) (hW : Wrt c (encD B n)) : 0 < c.length ∧ (c.getD 0 0).testBit 7 = B.testBit 0 ∧ c.getD 0 0 < 256 ∧ ∃ ca ccap cb coff, cv = .slice ca c.length ccap ∧ ca = some ⟨cb, coff, none⟩ ∧ c.length ≤ ccap ∧ ccap ≤ 9223372036854775807 ∧ w.cell? ⟨cb, coff, none⟩ = some (.int .u8 (c.getD 0 0 : Nat)) ∧ Hid (CSl w cv c) := by
  obtain ⟨h0, hb⟩ := enc_pos hW
  have hc := own_csl ho hW.1
  have hc' := hc
  obtain ⟨ca, ccap, rfl, h1, h2, h3, h4⟩ := hc
  obtain ⟨cb, coff, rfl, h5⟩ := h4 h0
  unfold maxLen at h2
  refine ⟨h0, hb, h3 _ (mem_getD h0), _, _, cb, coff, rfl, rfl, h1, by omega, ?_, hide hc'⟩
  simpa using h5 0 h0
theorem cell_below2 {w w' : World} {b o : Nat} {v : Value} (hb : Below w.heap.size w w') (h : w.cell? ⟨b, o, none⟩ = some v) : w'.cell? ⟨b, o, none⟩ = some v := by
  rw [World.cell?_of_block (hb.block _ (World.block_lt_of_cell? w _ h))]
  exact h
theorem top_bit {y : Nat} (h : y < 256) : y / 128 = (y.testBit 7).toNat := by
  rw [Nat.toNat_testBit]
  have : (2 : Nat) ^ 7 = 128 := by decide
  rw [this]
  omega
theorem encP_len {B n : Nat} : ∀ k p, n - p ≤ k → p ≤ n → (encP B n p).length ≤ 2 * (n - p)
  | 0, p, h, hp => by rw [encP_end (by omega)]; simp
  | k + 1, p, h, hp => by
    by_cases hlt : p < n
    · obtain ⟨a1, a2, -, -⟩ := ren_spec (B := B) hlt
      have ih := encP_len k (ren B n p) (by omega) a2 (B := B)
      have hg := gam_small (x := ren B n p - p) (by omega)
      rw [encP_step hlt, List.length_append]
      omega
    · rw [encP_end hlt]; simp
theorem enc_len {c : List Nat} {B n : Nat} (h : Wrt c (encD B n)) (h2 : n ≤ 65536) : c.length ≤ 150000000000000 := by
  have h1 := h.len
  have h3 := encP_len (B := B) n 0 (by omega) (Nat.zero_le n)
  rw [h1, encD, List.length_cons]
  omega
theorem wd_val {l : List Nat} (hl : ∀ b ∈ l, b < 18446744073709551616) : wds (valW l) l.length = l := by
  refine List.ext_getElem (wds_len _ _) fun i h1 h2 => ?_
  have h3 := wds_get (B := valW l) h2
  rw [wd_valW l i hl] at h3
  have e1 : (wds (valW l) l.length).getD i 0 = (wds (valW l) l.length)[i] := by simp [List.getD, h1]
  have e2 : l.getD i 0 = l[i] := by simp [List.getD, h2]
  rw [← e1, ← e2]
  exact h3
end Go.Proofs.YtglajdmkbckjjabDoor
