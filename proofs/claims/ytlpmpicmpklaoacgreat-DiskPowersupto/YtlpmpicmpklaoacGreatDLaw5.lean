import Derived.Test.YtlpmpicmpklaoacGreatDLaw4
namespace Go.Proofs.YtlpmpicmpklaoacGreat
open Go.RowKit Go.Maps
set_option linter.unusedVariables false
set_option linter.unusedSimpArgs false
set_option maxRecDepth 20000

/-- the power is on, no fuse -/
def St.calm (S : St) : Prop := S.off = false ∧ S.fuse = -1
theorem calm_ok {S : St} (h : S.calm) : S.stepOk = true := by simp [St.stepOk, h.1, h.2]
theorem calm_step {S : St} (h : S.calm) : S.step = S := by simp [St.step, h.1, h.2]
theorem calm_put {S : St} (h : S.calm) {k n : Nat} (hk : k < S.nb) (hn : n = S.sz) : S.putErr k n = 0 := by
  simp [St.putErr, hn, calm_ok h]
  omega
theorem calm_write {S : St} (h : S.calm) {k : Nat} (hk : k < S.nb) {l : List Nat} (hn : l.length = S.sz) : S.write k l = (S.pushed k l).addWr := by
  rw [St.write, St.putSt, if_pos (calm_put h hk hn), calm_step h]; rfl
theorem calm_through {S : St} (h : S.calm) {k : Nat} (hk : k < S.nb) {l : List Nat} (hn : l.length = S.sz) : S.through k l = ((S.laid k (some l)).dropped k).addTh := by
  rw [St.through, St.putSt, if_pos (calm_put h hk hn), calm_step h]; rfl

def St.put1 (S : St) (p : PutV) : St := if p.past then S.through (p.at_ S.nb) (p.bs S.sz) else S.write (p.at_ S.nb) (p.bs S.sz)
def St.puts (S : St) (ps : List PutV) : St := ps.foldl St.put1 S
theorem puts_snoc (S : St) (ps : List PutV) {i : Nat} (h : i < ps.length) : S.puts (ps.take (i + 1)) = (S.puts (ps.take i)).put1 ps[i] := by
  unfold St.puts
  rw [List.take_add_one, List.getElem?_eq_getElem h]
  simp only [Option.toList_some, List.foldl_append, List.foldl_cons, List.foldl_nil]

theorem bs_len (p : PutV) (sz : Nat) : (p.bs sz).length = sz := by
  simp [PutV.bs, zeros_len]; omega
theorem put1_geo (S : St) (p : PutV) : S.geo (S.put1 p) := by
  unfold St.put1
  split
  · exact geo_putSt S _ _ _ fun T => ⟨rfl, rfl⟩
  · exact geo_putSt S _ _ _ fun T => ⟨rfl, rfl⟩
theorem put1_calm {S : St} (h : S.calm) (hnb : 1 ≤ S.nb) (p : PutV) : (S.put1 p).calm := by
  unfold St.put1
  split
  · rw [calm_through h (p.at_lt hnb) (bs_len p S.sz)]; exact h
  · rw [calm_write h (p.at_lt hnb) (bs_len p S.sz)]; exact h
theorem put1_cache (S : St) (p : PutV) (k : Nat) : ((S.put1 p).cache k).length ≤ (S.cache k).length + 1 := by
  unfold St.put1
  split
  · refine cache_putSt S _ _ _ k fun T => ?_
    show (updF T.cache _ [] k).length ≤ _
    by_cases e : k = ((p.at_ S.nb : Nat) : Int).toNat
    · rw [e, updF_same]; simp
    · rw [updF_other _ _ e]; omega
  · exact cache_putSt S _ _ _ k fun T => len_updF T.cache _ k _
theorem puts_all (S : St) : ∀ ps : List PutV, S.geo (S.puts ps) ∧ (S.calm → 1 ≤ S.nb → (S.puts ps).calm) ∧ ∀ k, ((S.puts ps).cache k).length ≤ (S.cache k).length + ps.length := by
  intro ps
  induction ps generalizing S with
  | nil => exact ⟨geo_refl S, fun h _ => h, fun k => by simp [St.puts]⟩
  | cons p r ih =>
    obtain ⟨h1, h2, h3⟩ := ih (S.put1 p)
    have g := put1_geo S p
    refine ⟨⟨h1.1.trans g.1, h1.2.trans g.2⟩, fun hc hn => h2 (put1_calm hc hn p) (by rw [g.1]; exact hn), fun k => ?_⟩
    have := h3 k
    have := put1_cache S p k
    show ((St.puts (S.put1 p) r).cache k).length ≤ _
    simp only [List.length_cons]
    omega

theorem through_calm {w : World} {L : Lay} {S : St} (hR : Rep w L S) (hc : S.calm) {k : Nat} (hk : k < S.nb) {g : Nat} {l : List Nat} (hp : PieceAt w g l) (hl : l.length = S.sz) {sz : Nat} (e1 : sz = S.sz) :
    Calls Tryz.prog 53 #[PD L, .int .i64 (k : Int), sl g sz] w fun e w' => e = .returned .nilIface ∧ ∃ U', Rep w' { L with U := U' } (S.through k l) ∧ Grow w w' L.U U' := by
  subst e1
  have hb := hp.bsl
  rw [hl] at hb
  refine (Through_any hR k _ hb).mono ?_
  rintro e w' ⟨u, U', rfl, hE, h1, h2⟩
  rw [calm_put hc hk hl] at hE
  rcases hE with ⟨_, rfl⟩ | ⟨h, _⟩
  · exact ⟨rfl, U', h1, h2⟩
  · exact absurd rfl h
theorem write_calm {w : World} {L : Lay} {S : St} (hR : Rep w L S) (hc : S.calm) {k : Nat} (hk : k < S.nb) {g : Nat} {l : List Nat} (hp : PieceAt w g l) (hl : l.length = S.sz) {sz : Nat} (e1 : sz = S.sz) (hb : ∀ k, (S.cache k).length + 1 ≤ 9382499223500) :
    Calls Tryz.prog 51 #[PD L, .int .i64 (k : Int), sl g sz] w fun e w' => e = .returned .nilIface ∧ ∃ U', Rep w' { L with U := U' } (S.write k l) ∧ Grow w w' L.U U' := by
  subst e1
  have hbs := hp.bsl
  rw [hl] at hbs
  refine (Write_any hR k _ hbs hb).mono ?_
  rintro e w' ⟨u, U', rfl, hE, h1, h2⟩
  rw [calm_put hc hk hl] at hE
  rcases hE with ⟨_, rfl⟩ | ⟨h, _⟩
  · exact ⟨rfl, U', h1, h2⟩
  · exact absurd rfl h

/-- a list of writes, in memory -/
def PSl (w : World) (v : Value) (ps : List PutV) : Prop :=
  ∃ a cap, v = .slice a ps.length cap ∧ ps.length ≤ cap ∧ cap ≤ maxLen ∧ (∀ p ∈ ps, BSl w p.tv p.tl ∧ i64ok p.block) ∧
    (0 < ps.length → ∃ b off, a = some ⟨b, off, none⟩ ∧ ∀ i (h : i < ps.length), w.cell? ⟨b, off + i * 3, none⟩ = some (.int .i64 ps[i].block) ∧ w.cell? ⟨b, off + i * 3 + 1, none⟩ = some ps[i].tv ∧ w.cell? ⟨b, off + i * 3 + 2, none⟩ = some (.bool ps[i].past))

def PutsPost (w0 w : World) (L : Lay) (S' : St) (e : Ending) (w' : World) : Prop := e = .returned (.bool true) ∧ ∃ U', Dk w0 w' { L with U := U' } S'

end Go.Proofs.YtlpmpicmpklaoacGreat
