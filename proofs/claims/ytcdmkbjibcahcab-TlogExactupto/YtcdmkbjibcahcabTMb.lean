import Derived.Test.YtcdmkbjibcahcabTMa
namespace Go.Proofs.Ytcdmkbjibcahcab
open Go.RowKit
set_option linter.unusedVariables false
set_option linter.unusedSimpArgs false
set_option maxRecDepth 20000

section
variable {w0 x y z : World} {p bm q b : Nat} {A0 : Nat → Nat → Prop} {vs ds v dv v' dv' : Value} {o : Int × Int × Int × Int} {S D S' D' : LS} {c N c' N' : Nat} {P P' : VL}
theorem PM.close (h : PM w0 x y p bm q b A0 vs ds o v dv S D c N P) (hN : N ≤ 10000000000000) : Calls Try.prog 25 #[.pointer (some ⟨p, 0, none⟩)] y fun e z => e = .returned (.tuple #[.int .i64 (S.now : Int), .int .i64 (joinN S : Int), .bool (decide (0 < joinN S))]) ∧ PM w0 x z p bm q b A0 vs ds o v dv (closeS S) D c (N + 1) P := by
  have a := h.px.al
  have h1 := a.nw
  have h2 := a.tot
  refine (Close_any y p bm v S a.rep a.ok.bd (by omega)).mono ?_
  rintro e z ⟨rfl, t⟩
  have al : AL w0 z p bm v (closeS S) (N + 1) := a.of t (closeS_ok a.ok) (by rw [closeS_now]; split <;> omega) (by
    rw [closeS_ls]
    have : (closeS S).gone = S.gone := by unfold closeS; split <;> rfl
    omega)
  obtain ⟨k, f⟩ := h.px.log t al
  exact ⟨rfl, h.step k f⟩
theorem PM.rclose (h : PM w0 x y p bm q b A0 vs ds o v dv S D c N P) (hD : D.Ok) (hn : D.now ≤ 16000000000000) : Calls Try.prog 26 #[.pointer (some ⟨q, 0, none⟩)] y fun e z => e = .returned (.tuple #[.int .i64 (D.now : Int), .int .i64 (joinN D : Int), .bool (decide (0 < joinN D))]) ∧ PM w0 x z p bm q b A0 vs ds o v dv S (closeS D) c N P := by
  have hl := hD.bd.es
  rw [LS.es_len] at hl
  refine (rclose_any h.px.dl hl hn).mono ?_
  rw [ofN_now hD]
  rintro e z ⟨rfl, t⟩
  obtain ⟨k, f⟩ := h.px.doc t
  exact ⟨rfl, h.step k f⟩
/-- Ack of both -/
theorem ack_both (hS : S.Ok) (id : Int) (hid : i64ok id) : ∃ (S' : LS) (en : En) (r : Int), (∀ y v dv D c N P, N ≤ 10000000000000 → PM w0 x y p bm q b A0 vs ds o v dv S D c N P → Calls Try.prog 27 #[.pointer (some ⟨p, 0, none⟩), .int .i64 id] y fun e z => e = .returned (.tuple #[enV en, .int .i64 r]) ∧ PM w0 x z p bm q b A0 vs ds o v dv S' D c N P) ∧ (∀ y v dv S2 c N P, PM w0 x y p bm q b A0 vs ds o v dv S2 S c N P → Calls Try.prog 28 #[.pointer (some ⟨q, 0, none⟩), .int .i64 id] y fun e z => e = .returned (.tuple #[enV en, .int .i64 r]) ∧ PM w0 x z p bm q b A0 vs ds o v dv S2 S' c N P) := by
  have hl := hS.bd.es
  rw [LS.es_len] at hl
  by_cases hm : id ∈ ids S.ls
  · obtain ⟨i, hi⟩ := List.getElem?_of_mem hm
    simp only [ids, List.getElem?_map, Option.map_eq_some_iff] at hi
    obtain ⟨⟨zz, bb⟩, hx, rfl⟩ := hi
    cases bb with
    | true =>
      refine ⟨S, e0, 102, fun y v dv D c N P hN h => ?_, fun y v dv S2 c N P h => ?_⟩
      · have a := h.px.al
        refine (Ack_twice y p bm v S i zz a.rep hid hx).mono ?_
        rintro e z ⟨rfl, t⟩
        obtain ⟨k, f⟩ := h.px.log t (a.of t a.ok a.nw a.tot)
        exact ⟨rfl, h.step k f⟩
      · refine (rack_twice h.px.dl hl hS.bd.nd i zz hx).mono ?_
        rintro e z ⟨rfl, t⟩
        obtain ⟨k, f⟩ := h.px.doc t
        exact ⟨rfl, h.step k f⟩
    | false =>
      refine ⟨ackS S i zz, zz, 0, fun y v dv D c N P hN h => ?_, fun y v dv S2 c N P h => ?_⟩
      · have a := h.px.al
        have h3 := a.tot
        refine (Ack_ok y p bm v S i zz a.rep a.ok.bd hx (by omega)).mono ?_
        rintro e z ⟨rfl, t⟩
        have al : AL w0 z p bm v (ackS S i zz) N := a.of t (ackS_ok a.ok hx) a.nw (by
          show S.gone + (S.ls.set i _).length ≤ N
          rw [List.length_set]
          omega)
        obtain ⟨k, f⟩ := h.px.log t al
        exact ⟨rfl, h.step k f⟩
      · refine (rack_ok h.px.dl hl hS.bd.nd i zz hx).mono ?_
        rintro e z ⟨rfl, t⟩
        obtain ⟨k, f⟩ := h.px.doc t
        exact ⟨rfl, h.step k f⟩
  · refine ⟨S, e0, 103, fun y v dv D c N P hN h => ?_, fun y v dv S2 c N P h => ?_⟩
    · have a := h.px.al
      refine (Ack_no y p bm v S id a.rep hid hm).mono ?_
      rintro e z ⟨rfl, t⟩
      obtain ⟨k, f⟩ := h.px.log t (a.of t a.ok a.nw a.tot)
      exact ⟨rfl, h.step k f⟩
    · refine (rack_no h.px.dl hl id hm).mono ?_
      rintro e z ⟨rfl, t⟩
      obtain ⟨k, f⟩ := h.px.doc t
      exact ⟨rfl, h.step k f⟩
theorem PM.fail (h : PM w0 x y p bm q b A0 vs ds o v dv S D c N P) (hN : N ≤ 10000000000000) : Calls Try.prog 32 #[.pointer (some ⟨p, 0, none⟩)] y fun e z => ∃ lv v', e = .returned lv ∧ PM w0 x z p bm q b A0 vs ds o v' dv (failS S) D c N ((lv, S.es) :: P) := by
  have a := h.px.al
  have h3 := a.tot
  refine (Fail_any y p bm v S a.rep a.ok.bd (by omega)).mono ?_
  rintro e z ⟨lv, v', rfl, t⟩
  have ho := t.out
  rw [show ({ S with now := 1 } : LS).es.take S.es.length = S.es from List.take_length] at ho
  have al : AL w0 z p bm v' (failS S) N := a.of t.tn (failS_ok a.ok) (by show 1 ≤ N + 1; omega) (by
    show S.gone + S.es.length + (S.ls.drop S.es.length).length ≤ N
    rw [LS.es_len, List.length_drop]
    omega)
  obtain ⟨k, f⟩ := h.px.logL t al ho a.ok.bd.es
  exact ⟨lv, v', rfl, h.step k f⟩
theorem PM.rfail (h : PM w0 x y p bm q b A0 vs ds o v dv S D c N P) (hD : D.Ok) : Calls Try.prog 33 #[.pointer (some ⟨q, 0, none⟩)] y fun e z => ∃ lv dv', e = .returned lv ∧ PM w0 x z p bm q b A0 vs ds o v dv' S (failS D) c N P ∧ ERow z lv D.es := by
  have hl := hD.bd.es
  rw [LS.es_len] at hl
  refine (rfail_any h.px.dl hl).mono ?_
  rintro e z ⟨lv, rfl, t, he, -⟩
  have t2 : DT y z q dv (.slice none 0 0) (failS D) := t.same ⟨rfl, rfl, rfl, by rw [failS_ls]⟩
  obtain ⟨k, f⟩ := h.px.doc t2
  exact ⟨lv, _, rfl, h.step k f, he⟩
/-- what Barrier does to a log -/
def barR (S : LS) (ep cnt : Int) : LS := if barB S ep cnt = true then leaveS S (frontN S) else S
def barL (S : LS) (ep cnt : Int) : List En := if barB S ep cnt = true then S.es.take (frontN S) else []
def barE (S : LS) (ep cnt : Int) : Int := if barB S ep cnt = true then 0 else 101
theorem PM.bar (h : PM w0 x y p bm q b A0 vs ds o v dv S D c N P) (hN : N ≤ 10000000000000) (ep cnt : Int) : Calls Try.prog 30 #[.pointer (some ⟨p, 0, none⟩), .int .i64 ep, .int .i64 cnt] y fun e z => ∃ lv v', e = .returned (.tuple #[lv, .int .i64 (barE S ep cnt)]) ∧ PM w0 x z p bm q b A0 vs ds o v' dv (barR S ep cnt) D c N ((lv, barL S ep cnt) :: P) := by
  have a := h.px.al
  have h1 := a.nw
  have h2 := a.ok.old
  have h3 := a.tot
  unfold barR barL barE
  by_cases hb : barB S ep cnt = true
  · rw [if_pos hb, if_pos hb, if_pos hb]
    refine (Barrier_ok y p bm v S ep cnt a.rep a.ok.bd (by omega) ⟨by omega, by omega⟩ (by omega) hb).mono ?_
    rintro e z ⟨lv, v', rfl, t⟩
    have al : AL w0 z p bm v' (leaveS S (frontN S)) N := a.of t.tn (leaveS_ok a.ok _) a.nw (by
      show S.gone + frontN S + (S.ls.drop _).length ≤ N
      have := frontN_le S
      rw [LS.es_len] at this
      rw [List.length_drop]
      omega)
    obtain ⟨k, f⟩ := h.px.logL t al t.out (by
      rw [List.length_take]
      have := a.ok.bd.es
      omega)
    exact ⟨lv, v', rfl, h.step k f⟩
  · rw [if_neg hb, if_neg hb, if_neg hb]
    refine (Barrier_no y p bm v S ep cnt a.rep a.ok.bd (by omega) ⟨by omega, by omega⟩ (by simpa using hb)).mono ?_
    rintro e z ⟨rfl, t⟩
    obtain ⟨k, f⟩ := h.px.log t (a.of t a.ok a.nw a.tot)
    exact ⟨_, v, rfl, h.step (k.new (Below.refl _ _) (ERow.nil z) (fun g e => by simp [Value.ownBlock] at e) (by simp)) f⟩
theorem PM.rbar (h : PM w0 x y p bm q b A0 vs ds o v dv S D c N P) (hD : D.Ok) (ep cnt : Int) : Calls Try.prog 31 #[.pointer (some ⟨q, 0, none⟩), .int .i64 ep, .int .i64 cnt] y fun e z => ∃ lv dv', e = .returned (.tuple #[lv, .int .i64 (barE D ep cnt)]) ∧ PM w0 x z p bm q b A0 vs ds o v dv' S (barR D ep cnt) c N P ∧ ERow z lv (barL D ep cnt) := by
  have hl := hD.bd.es
  rw [LS.es_len] at hl
  have hq := rbB_eq hD ep cnt
  unfold barR barL barE
  by_cases hb : barB D ep cnt = true
  · rw [if_pos hb, if_pos hb, if_pos hb]
    obtain ⟨b1, b2, b3⟩ := barB_true hb
    have hn : D.es ≠ [] := fun e => b1 (old_nil e)
    obtain ⟨l1, l2⟩ := leaves_eq hD hn
    refine (rbar_ok h.px.dl hl ep cnt (by rw [hq]; exact hb)).mono ?_
    rintro e z ⟨lv, dv', rfl, t, he, -⟩
    rw [b2] at t he
    rw [l1] at he
    have t2 : DT y z q dv dv' (leaveS D (frontN D)) := t.same ⟨rfl, rfl, rfl, l2⟩
    obtain ⟨k, f⟩ := h.px.doc t2
    exact ⟨lv, _, rfl, h.step k f, he⟩
  · rw [if_neg hb, if_neg hb, if_neg hb]
    refine (rbar_no h.px.dl hl ep cnt (by rw [hq]; simpa using hb)).mono ?_
    rintro e z ⟨rfl, m, rfl⟩
    exact ⟨_, dv, rfl, h.below (below_drew0 _ m), ERow.nil _⟩
theorem PM.keep {l : Value × List En} (h : PM w0 x y p bm q b A0 vs ds o v dv S D c N (l :: P)) (hc : c ≤ 4400000000000) : Calls Try.prog 20 #[.pointer (some ⟨b, 0, none⟩), l.1] y fun e z => e = .returned (.tuple #[]) ∧ PM w0 x z p bm q b A0 vs ds o v dv S D (c + 1) N P :=
  (h.px.keep hc).mono fun e z k => ⟨k.1, h.step k.2.1 k.2.2⟩
theorem PM.drop {l : Value × List En} (h : PM w0 x y p bm q b A0 vs ds o v dv S D c N (l :: P)) : PM w0 x y p bm q b A0 vs ds o v dv S D c N P := by
  have k := h.px
  have mp : ∀ u, u ∈ P → u ∈ l :: P := fun u hu => List.mem_cons.2 (.inr hu)
  refine h.step ⟨k.al, k.dl, k.q0, k.q1, k.bx.move (U := fun _ => False) (Ck.refl _ _) (Chg.refl _ _) (fun _ e => e.elim) ?_, k.a0, k.a1, fun u hu => k.ep u (mp u hu), fun u hu => k.dp u (mp u hu), (List.pairwise_cons.1 k.pp).2, fun u hu => k.op u (mp u hu), fun u hu => k.pl u (mp u hu)⟩ (Ft.ofBelow (Below.refl _ _))
  rintro g i (e | ⟨u, hu, e⟩)
  · exact .inl (.inl e)
  · exact .inl (.inr ⟨u, mp u hu, e⟩)
/-- a box of one write, as a list of one -/
theorem PM.box (h : PM w0 x y p bm q b A0 vs ds o v dv S D c N P) (e1 e2 e3 : Int) : PM w0 x (y.alloc (.cells #[.int .i64 e1, .int .i64 e2, .int .i64 e3] 56)) p bm q b A0 vs ds o v dv S D c N ((.slice (some ⟨y.heap.size, 0, none⟩) 1 1, [(e1, e2, e3)]) :: P) := by
  have hb := below_alloc y (.cells #[.int .i64 e1, .int .i64 e2, .int .i64 e3] 56)
  refine h.step (h.px.new hb (.inr ⟨y.heap.size, 0, 1, _, rfl, Go.heap_alloc_new y _, by simp, by simp, by unfold maxLen; omega, by simp [evs, eV]⟩) (fun g e => ?_) (by simp)) (Ft.ofBelow hb)
  simp only [Value.ownBlock, Option.some.injEq] at e
  omega
theorem PM.boxc {g : Nat} {e1 e2 e3 : Int} (h : PM w0 x y p bm q b A0 vs ds o v dv S D c N ((.slice (some ⟨g, 0, none⟩) 1 1, [(e1, e2, e3)]) :: P)) : y.cell? ⟨g, 0, none⟩ = some (.int .i64 e1) ∧ y.cell? ⟨g, 1, none⟩ = some (.int .i64 e2) ∧ y.cell? ⟨g, 2, none⟩ = some (.int .i64 e3) := by
  obtain ⟨a, c, e, -, -, hq⟩ := (h.px.ep _ (List.mem_cons.2 (.inl rfl))).form
  obtain ⟨g', o', e2, -, d0, d1, d2⟩ := hq 0 (by simp)
  simp only [Value.slice.injEq] at e
  rw [e2] at e
  simp only [Option.some.injEq, Addr.mk.injEq] at e
  obtain ⟨⟨rfl, rfl, -⟩, -, -⟩ := e
  exact ⟨by simpa using d0, by simpa using d1, by simpa using d2⟩
/-- a list beside the document's copy -/
theorem PM.same {l : Value × List En} {u : Value} (h : PM w0 x y p bm q b A0 vs ds o v dv S D c N (l :: P)) (hu : ERow y u l.2) : Calls Try.prog 18 #[l.1, u] y fun e z => e = .returned (.bool true) ∧ PM w0 x z p bm q b A0 vs ds o v dv S D c N (l :: P) := by
  have := sameEntries_any y l.1 u l.2 l.2 (h.px.ep l (List.mem_cons.2 (.inl rfl))) hu
  rw [decide_eq_true rfl] at this
  exact this.mono fun e z k => ⟨k.1, h.below k.2⟩
end
end Go.Proofs.Ytcdmkbjibcahcab
