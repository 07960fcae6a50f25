import Derived.Test.YtlpmpicmpklaoaaDLaw4
namespace Go.Proofs.Ytlpmpicmpklaoaa
open Go.RowKit Go.Maps
set_option linter.unusedVariables false
set_option linter.unusedSimpArgs false
set_option maxRecDepth 20000

/-- the power is on, no fuse -/
def St.calm (S : St) : Prop := S.off = false ∧ S.fuse = -1
theorem calm_ok {S : St} (h : S.calm) : S.stepOk = true := by simp [St.stepOk, h.1, h.2]
theorem calm_step {S : St} (h : S.calm) : S.step = S := by simp [St.step, h.1, h.2]
theorem calm_put {S : St} (h : S.calm) {k n : Nat} (hk : k < S.nb) (hn : n = S.sz) : S.putErr k n = 0 := by
  simp [St.putErr, hn, calm_ok h]
  omega
theorem calm_write {S : St} (h : S.calm) {k : Nat} (hk : k < S.nb) {l : List Nat} (hn : l.length = S.sz) : S.write k l = (S.pushed k l).addWr := by
  rw [St.write, St.putSt, if_pos (calm_put h hk hn), calm_step h]; rfl
theorem calm_through {S : St} (h : S.calm) {k : Nat} (hk : k < S.nb) {l : List Nat} (hn : l.length = S.sz) : S.through k l = ((S.laid k (some l)).dropped k).addTh := by
  rw [St.through, St.putSt, if_pos (calm_put h hk hn), calm_step h]; rfl

def St.put1 (S : St) (p : PutV) : St := if p.past then S.through (p.at_ S.nb) (p.bs S.sz) else S.write (p.at_ S.nb) (p.bs S.sz)
def St.puts (S : St) (ps : List PutV) : St := ps.foldl St.put1 S
theorem puts_snoc (S : St) (ps : List PutV) {i : Nat} (h : i < ps.length) : S.puts (ps.take (i + 1)) = (S.puts (ps.take i)).put1 ps[i] := by
  unfold St.puts
  rw [List.take_add_one, List.getElem?_eq_getElem h]
  simp only [Option.toList_some, List.foldl_append, List.foldl_cons, List.foldl_nil]

theorem bs_len (p : PutV) (sz : Nat) : (p.bs sz).length = sz := by
  simp [PutV.bs, zeros_len]; omega
theorem put1_geo (S : St) (p : PutV) : S.geo (S.put1 p) := by
  unfold St.put1
  split
  · exact geo_putSt S _ _ _ fun T => ⟨rfl, rfl⟩
  · exact geo_putSt S _ _ _ fun T => ⟨rfl, rfl⟩
theorem put1_calm {S : St} (h : S.calm) (hnb : 1 ≤ S.nb) (p : PutV) : (S.put1 p).calm := by
  unfold St.put1
  split
  · rw [calm_through h (p.at_lt hnb) (bs_len p S.sz)]; exact h
  · rw [calm_write h (p.at_lt hnb) (bs_len p S.sz)]; exact h
theorem put1_cache (S : St) (p : PutV) (k : Nat) : ((S.put1 p).cache k).length ≤ (S.cache k).length + 1 := by
  unfold St.put1
  split
  · refine cache_putSt S _ _ _ k fun T => ?_
    show (updF T.cache _ [] k).length ≤ _
    by_cases e : k = ((p.at_ S.nb : Nat) : Int).toNat
    · rw [e, updF_same]; simp
    · rw [updF_other _ _ e]; omega
  · exact cache_putSt S _ _ _ k fun T => len_updF T.cache _ k _
theorem puts_all (S : St) : ∀ ps : List PutV, S.geo (S.puts ps) ∧ (S.calm → 1 ≤ S.nb → (S.puts ps).calm) ∧ ∀ k, ((S.puts ps).cache k).length ≤ (S.cache k).length + ps.length := by
  intro ps
  induction ps generalizing S with
  | nil => exact ⟨geo_refl S, fun h _ => h, fun k => by simp [St.puts]⟩
  | cons p r ih =>
    obtain ⟨h1, h2, h3⟩ := ih (S.put1 p)
    have g := put1_geo S p
    refine ⟨⟨h1.1.trans g.1, h1.2.trans g.2⟩, fun hc hn => h2 (put1_calm hc hn p) (by rw [g.1]; exact hn), fun k => ?_⟩
    have := h3 k
    have := put1_cache S p k
    show ((St.puts (S.put1 p) r).cache k).length ≤ _
    simp only [List.length_cons]
    omega

theorem through_calm {w : World} {L : Lay} {S : St} (hR : Rep w L S) (hc : S.calm) {k : Nat} (hk : k < S.nb) {g : Nat} {l : List Nat} (hp : PieceAt w g l) (hl : l.length = S.sz) {sz : Nat} (e1 : sz = S.sz) :
    Calls Try.prog 14 #[PD L, .int .i64 (k : Int), sl g sz] w fun e w' => e = .returned .nilIface ∧ ∃ U', Rep w' { L with U := U' } (S.through k l) ∧ Grow w w' L.U U' := by
  subst e1
  have hb := hp.bsl
  rw [hl] at hb
  refine (Through_any hR k _ hb).mono ?_
  rintro e w' ⟨u, U', rfl, hE, h1, h2⟩
  rw [calm_put hc hk hl] at hE
  rcases hE with ⟨_, rfl⟩ | ⟨h, _⟩
  · exact ⟨rfl, U', h1, h2⟩
  · exact absurd rfl h
theorem write_calm {w : World} {L : Lay} {S : St} (hR : Rep w L S) (hc : S.calm) {k : Nat} (hk : k < S.nb) {g : Nat} {l : List Nat} (hp : PieceAt w g l) (hl : l.length = S.sz) {sz : Nat} (e1 : sz = S.sz) (hb : ∀ k, (S.cache k).length + 1 ≤ 9382499223500) :
    Calls Try.prog 25 #[PD L, .int .i64 (k : Int), sl g sz] w fun e w' => e = .returned .nilIface ∧ ∃ U', Rep w' { L with U := U' } (S.write k l) ∧ Grow w w' L.U U' := by
  subst e1
  have hbs := hp.bsl
  rw [hl] at hbs
  refine (Write_any hR k _ hbs hb).mono ?_
  rintro e w' ⟨u, U', rfl, hE, h1, h2⟩
  rw [calm_put hc hk hl] at hE
  rcases hE with ⟨_, rfl⟩ | ⟨h, _⟩
  · exact ⟨rfl, U', h1, h2⟩
  · exact absurd rfl h

/-- a list of writes, in memory -/
def PSl (w : World) (v : Value) (ps : List PutV) : Prop :=
  ∃ a cap, v = .slice a ps.length cap ∧ ps.length ≤ cap ∧ cap ≤ maxLen ∧ (∀ p ∈ ps, BSl w p.tv p.tl ∧ i64ok p.block) ∧
    (0 < ps.length → ∃ b off, a = some ⟨b, off, none⟩ ∧ ∀ i (h : i < ps.length), w.cell? ⟨b, off + i * 3, none⟩ = some (.int .i64 ps[i].block) ∧ w.cell? ⟨b, off + i * 3 + 1, none⟩ = some ps[i].tv ∧ w.cell? ⟨b, off + i * 3 + 2, none⟩ = some (.bool ps[i].past))

def PutsPost (w0 w : World) (L : Lay) (S' : St) (e : Ending) (w' : World) : Prop := e = .returned (.bool true) ∧ ∃ U', Dk w0 w' { L with U := U' } S'

set_option maxHeartbeats 1000000 in
theorem puts_grow {w0 w : World} {L : Lay} {S : St} (hD : Dk w0 w L S) (hcalm : S.calm) (v : Value) (ps : List PutV) (hv : PSl w0 v ps) (hlen : ps.length ≤ 5864062014800) (hcache : ∀ k, S.cache k = []) :
    Calls Try.prog 11 #[PD L, .int .i64 (S.nb : Int), .int .i64 (S.sz : Int), v] w fun e w' => e = .returned (.bool true) ∧ ∃ U', Dk w0 w' { L with U := U' } (S.puts ps) ∧ Grow w w' L.U U' := by
  obtain ⟨a, cap, rfl, hl, hm, hall, hcell⟩ := hv
  unfold maxLen at hm
  have HALL := hide hall
  have HCELL := hide hcell
  have HD0 := hide hD
  have HCA := hide hcalm
  have HCC := hide hcache
  obtain ⟨hnb1, hnb2⟩ := hD.rep.nb
  have HSZ := hide hD.rep.szs
  clear hall hcell hD hcalm hcache
  have q1 := ifaceNe
  have q2 := nilNe
  unfold PD
  go_enter Try.func11, Try.ntmps11
  go_wp2
  go_loopw [9] (fun i wr => ∃ (n : Nat) (U' : Nat → Prop), n ≤ ps.length ∧ i = .int .i64 (n : Int) ∧ Dk w0 wr { L with U := U' } (S.puts (ps.take n)) ∧ Grow w wr L.U U') (fun i _ => ps.length - (intOf i).toNat)
  case atStart => exact ⟨0, L.U, Nat.zero_le _, rfl, HD0.out, Grow.refl _ _⟩
  case round =>
    clear HD0
    obtain ⟨n, U', hn, rfl, hD, hGr⟩ := hrel
    have HD := hide hD
    have HGR := hide hGr
    clear hD hGr
    by_cases hlt : n < ps.length
    · obtain ⟨b, off, rfl, hc⟩ := HCELL.out (by omega)
      obtain ⟨x0, x1, x2⟩ := hc n hlt
      have HK : Hid (∀ wr, Below w0.heap.size w0 wr → wr.cell? ⟨b, off + n * 3, none⟩ = some (.int .i64 ps[n].block) ∧ wr.cell? ⟨b, off + n * 3 + 1, none⟩ = some ps[n].tv ∧ wr.cell? ⟨b, off + n * 3 + 2, none⟩ = some (.bool ps[n].past)) := hide fun wr hb =>
        ⟨by rw [hb.cell (World.block_lt_of_cell? w0 _ x0)]; exact x0, by rw [hb.cell (World.block_lt_of_cell? w0 _ x1)]; exact x1, by rw [hb.cell (World.block_lt_of_cell? w0 _ x2)]; exact x2⟩
      obtain ⟨hbs, hib⟩ := HALL.out ps[n] (List.getElem_mem hlt)
      obtain ⟨hg, hca, hcc⟩ := puts_all S (ps.take n)
      have HSN := hide (puts_snoc S ps hlt)
      have HCA2 := hide (hca HCA.out hnb1)
      have HG := hide hg
      have hcb : ∀ k, ((S.puts (ps.take n)).cache k).length + 1 ≤ 9382499223500 := fun k => by
        have := hcc k
        rw [HCC.out k] at this
        simp only [List.length_take, List.length_nil] at this
        omega
      have HCB := hide hcb
      have HBS := hide hbs
      have HIB := hide hib
      clear hc x0 x1 x2 hg hca hcc hbs hib hcb
      generalize hP : ps[n] = P at *
      have HP := hide hP
      clear hP
      have HBL := fun wr => block_any wr P S.nb hnb1 hnb2 HIB.out
      have HBY := fun wr (h : BSl wr P.tv P.tl) => bytes_any wr P S.sz HSZ.out h
      have HBL' := hide HBL
      have HBY' := hide HBY
      clear HBL HBY
      unfold PutV.val at HBL' HBY'
      obtain ⟨k0, k1, k2⟩ := HK.out wr HD.out.be
      have HKN : Hid (P.at_ S.nb < (S.puts (ps.take n)).nb) := hide (by rw [HG.out.1]; exact P.at_lt hnb1)
      have HBL2 : Hid ((P.bs S.sz).length = (S.puts (ps.take n)).sz) := hide (by rw [bs_len, HG.out.2])
      have HSZ2 : Hid (S.sz = (S.puts (ps.take n)).sz) := hide HG.out.2.symm
      cases hpast : P.past with
      | true =>
        have HST : Hid ((S.puts (ps.take n)).put1 P = (S.puts (ps.take n)).through (P.at_ S.nb) (P.bs S.sz)) := hide (by rw [St.put1, hpast, HG.out.1, HG.out.2]; rfl)
        rw [hpast] at k2 HBL' HBY' HK
        go_wp2_with (first
          | (go_at_call 12; refine (HBL'.out _).mono ?_; rintro e w2 ⟨rfl, hb2⟩; have HD2 := hide (HD.out.below hb2); have HG2 := hide (HGR.out.trans (Grow.ofBelow U' hb2)); obtain ⟨m0, m1, m2⟩ := HK.out _ HD2.out.be; clear hb2)
          | (go_at_call 13; refine (HBY'.out _ (HD2.out.bsl HBS.out)).mono ?_; rintro e w3 ⟨g, rfl, hg3, hp3, hb3⟩; have HD3 := hide (HD2.out.below hb3); have HG3 := hide (HG2.out.trans (Grow.ofBelow U' hb3)); have HP3 := hide hp3; obtain ⟨p0, p1, p2⟩ := HK.out _ HD3.out.be; clear hb3 hp3)
          | (go_at_call 14; refine (through_calm HD3.out.rep HCA2.out HKN.out HP3.out HBL2.out HSZ2.out).mono ?_; rintro e w4 ⟨rfl, U4, hR4, hG4⟩; have HD4 := hide (HD3.out.grow hR4 hG4); have HG4 := hide (HG3.out.trans hG4); clear hR4 hG4))
        go_roundw
        case rel => exact ⟨n + 1, U4, by omega, by go_num, by rw [HSN.out, HST.out]; exact HD4.out, HG4.out⟩
        case measure => simp [intOf]; omega
      | false =>
        have HST : Hid ((S.puts (ps.take n)).put1 P = (S.puts (ps.take n)).write (P.at_ S.nb) (P.bs S.sz)) := hide (by rw [St.put1, hpast, HG.out.1, HG.out.2]; rfl)
        rw [hpast] at k2 HBL' HBY' HK
        go_wp2_with (first
          | (go_at_call 12; refine (HBL'.out _).mono ?_; rintro e w2 ⟨rfl, hb2⟩; have HD2 := hide (HD.out.below hb2); have HG2 := hide (HGR.out.trans (Grow.ofBelow U' hb2)); obtain ⟨m0, m1, m2⟩ := HK.out _ HD2.out.be; clear hb2)
          | (go_at_call 13; refine (HBY'.out _ (HD2.out.bsl HBS.out)).mono ?_; rintro e w3 ⟨g, rfl, hg3, hp3, hb3⟩; have HD3 := hide (HD2.out.below hb3); have HG3 := hide (HG2.out.trans (Grow.ofBelow U' hb3)); have HP3 := hide hp3; obtain ⟨p0, p1, p2⟩ := HK.out _ HD3.out.be; clear hb3 hp3)
          | (go_at_call 25; refine (write_calm HD3.out.rep HCA2.out HKN.out HP3.out HBL2.out HSZ2.out HCB.out).mono ?_; rintro e w4 ⟨rfl, U4, hR4, hG4⟩; have HD4 := hide (HD3.out.grow hR4 hG4); have HG4 := hide (HG3.out.trans hG4); clear hR4 hG4))
        go_roundw
        case rel => exact ⟨n + 1, U4, by omega, by go_num, by rw [HSN.out, HST.out]; exact HD4.out, HG4.out⟩
        case measure => simp [intOf]; omega
    · have HE : Hid (ps.take n = ps) := hide (List.take_of_length_le (by omega))
      go_wp2
      go_ret
      have h := HD.out
      rw [HE.out] at h
      exact ⟨rfl, U', h, HGR.out⟩
theorem puts_any {w0 w : World} {L : Lay} {S : St} (hD : Dk w0 w L S) (hcalm : S.calm) (v : Value) (ps : List PutV) (hv : PSl w0 v ps) (hlen : ps.length ≤ 5864062014800) (hcache : ∀ k, S.cache k = []) :
    Calls Try.prog 11 #[PD L, .int .i64 (S.nb : Int), .int .i64 (S.sz : Int), v] w fun e w' => PutsPost w0 w L (S.puts ps) e w' :=
  (puts_grow hD hcalm v ps hv hlen hcache).mono fun e w' ⟨h1, U', h2, _⟩ => ⟨h1, U', h2⟩
end Go.Proofs.Ytlpmpicmpklaoaa
