import Derived.Test.YtlkccencilhacaaAKpW
namespace Go.Proofs.Ytlkccencilhacaa
open Go.RowKit Go.Sort
set_option linter.unusedVariables false
set_option linter.unusedSimpArgs false
set_option maxRecDepth 20000

/-- numbers with which New must make a log -/
def okM (a b c : Int) : Prop := (1 ≤ a ∧ a ≤ 16) ∧ (1 ≤ b ∧ b ≤ 1024) ∧ (c = 128 ∨ c = 256 ∨ c = 512 ∨ c = 1024)
instance (a b c : Int) : Decidable (okM a b c) := by unfold okM; infer_instance
set_option maxHeartbeats 4000000 in
theorem good_any (w : World) (a b c d : Int) : Calls Try.prog 14 #[.agg #[.int .i64 a, .int .i64 b, .int .i64 c, .int .u32 d]] w fun e w' => e = .returned (.bool (decide (okM a b c))) ∧ Below w.heap.size w w' := by
  have HB0 := hide ((Below.refl w.heap.size w).alloc (Nat.le_refl _) (.cells #[.int .i64 a, .int .i64 b, .int .i64 c, .int .u32 d] 35))
  obtain ⟨R, hR0⟩ : ∃ R, decide (okM a b c) = R := ⟨_, rfl⟩
  have hyes : ((1 ≤ a ∧ a ≤ 16) ∧ (1 ≤ b ∧ b ≤ 1024) ∧ (c = 128 ∨ c = 256 ∨ c = 512 ∨ c = 1024)) → R = true := fun h => hR0.symm.trans (decide_eq_true h)
  have hno : ¬ ((1 ≤ a ∧ a ≤ 16) ∧ (1 ≤ b ∧ b ≤ 1024) ∧ (c = 128 ∨ c = 256 ∨ c = 512 ∨ c = 1024)) → R = false := fun h => hR0.symm.trans (decide_eq_false h)
  rw [hR0]
  clear hR0
  obtain rfl | ⟨s1, h1⟩ : c = 128 ∨ ((c == 128) = false ∧ c ≠ 128) := by
    by_cases h : c = 128
    · exact .inl h
    · exact .inr ⟨by simpa using h, h⟩
  case' inr =>
    obtain rfl | ⟨s2, h2⟩ : c = 256 ∨ ((c == 256) = false ∧ c ≠ 256) := by
      by_cases h : c = 256
      · exact .inl h
      · exact .inr ⟨by simpa using h, h⟩
    case' inr =>
      obtain rfl | ⟨s3, h3⟩ : c = 512 ∨ ((c == 512) = false ∧ c ≠ 512) := by
        by_cases h : c = 512
        · exact .inl h
        · exact .inr ⟨by simpa using h, h⟩
      case' inr =>
        obtain rfl | ⟨s4, h4⟩ : c = 1024 ∨ ((c == 1024) = false ∧ c ≠ 1024) := by
          by_cases h : c = 1024
          · exact .inl h
          · exact .inr ⟨by simpa using h, h⟩
  all_goals
    by_cases p1 : 1 ≤ a
    case' neg => (have hR : R = false := hno (by omega))
    case' pos =>
      by_cases p2 : a ≤ 16
      case' neg => (have hR : R = false := hno (by omega))
      case' pos =>
        by_cases p3 : 1 ≤ b
        case' neg => (have hR : R = false := hno (by omega))
        case' pos =>
          by_cases p4 : b ≤ 1024
          case' neg => (have hR : R = false := hno (by omega))
          case' pos => (first | (have hR : R = true := hyes (by omega)) | (have hR : R = false := hno (by omega)))
  all_goals
    subst hR
    clear hyes hno
    try clear h1
    try clear h2
    try clear h3
    try clear h4
    go_enter Try.func14, Try.ntmps14
    go_wp2_with fail
    go_ret
    exact ⟨rfl, HB0.out⟩
theorem ptrL' (W : World) (a : Addr) : (binOp .eql 43 (.pointer (some a)) (.pointer none)).run Try.prog W = .ok (.bool false) W := by kernel_rfl
/-- a new log's first extent -/
theorem beg_first {n ext size first : Nat} {x : Int} (h1 : 1 ≤ n) {S' : LS} {written' : Nat} {r : Bg} (hx : 0 ≤ x ∧ x < (ext : Int)) (h : BegRes ⟨n, [], [], [], []⟩ ext size first 0 x S' written' r) : S' = ⟨n, [x], [x], [1], []⟩ ∧ written' = 1 ∧ r.c0 = 0 ∧ r.c1 = x ∧ r.c2 = -1 ∧ r.er = 0 ∧ r.bs = some (recOf S' size first 0 0 x (-1)) := by
  rcases h with ⟨h2, -⟩ | ⟨-, slot, old, gone, er, hg, -⟩ | ⟨-, slot, old, gone, hg, rfl, rfl⟩
  · exact absurd hx h2
  · rcases hg with ⟨s, g1, -⟩ | ⟨g1, g2, g3, g4, g5, -⟩ | ⟨g1, g2, s, t, o, g3, -⟩ | ⟨g1, g2, -⟩
    · simp at g1
    · cases g5
    · cases g3
    · simp at g2; omega
  · rcases hg with ⟨s, g1, -⟩ | ⟨g1, g2, rfl, rfl, -, rfl, rfl, -⟩ | ⟨g1, g2, s, t, o, g3, -⟩ | ⟨g1, g2, -, -, -, g6, -⟩
    · simp at g1
    · exact ⟨rfl, rfl, rfl, rfl, rfl, rfl, rfl⟩
    · cases g3
    · cases g6
theorem gu_new {N lp : Nat} (h : N ≤ lp) : ∀ b, GU lp (N + 1) N (.slice none 0 0) (.slice none 0 0) (.slice none 0 0) b → N ≤ b := by
  rintro b (rfl | rfl | rfl | e | e | e)
  · exact h
  · exact Nat.le_succ _
  · exact Nat.le_refl _
  all_goals simp [Value.ownBlock] at e
theorem hot_one (n : Nat) (x : Int) : hotL ⟨n, [x], [x], [1], []⟩ = [x] := by
  simp [hotL, LS.keys, List.range_succ]
set_option maxHeartbeats 2000000 in
theorem first_any (w : World) (n ext size first : Nat) (h1 : 1 ≤ n) (h2 : n ≤ 16) (h3 : 1 ≤ ext) (h4 : ext ≤ 1024) (h5 : size = 128 ∨ size = 256 ∨ size = 512 ∨ size = 1024) :
    Calls Try.prog 16 #[.agg #[.int .i64 (n : Int), .int .i64 (ext : Int), .int .i64 (size : Int), .int .u32 (first : Int)]] w fun e w' => e = .returned (.bool true) ∧ Below w.heap.size w w' := by
  have q2 := ptrL'
  have HB0 := hide ((Below.refl w.heap.size w).alloc (Nat.le_refl _) (.cells #[.int .i64 (n : Int), .int .i64 (ext : Int), .int .i64 (size : Int), .int .u32 (first : Int)] 35))
  have HN := hide fun x => logNew_any x n ext size first h1 h2 h3 h4 h5
  have HNU := hide fun (x : World) (e : Int) => num_any x e
  have HBX : Hid (∀ x, Below (w.alloc (.cells #[.int .i64 (n : Int), .int .i64 (ext : Int), .int .i64 (size : Int), .int .u32 (first : Int)] 35)).heap.size (w.alloc (.cells #[.int .i64 (n : Int), .int .i64 (ext : Int), .int .i64 (size : Int), .int .u32 (first : Int)] 35)) x → x.cell? ⟨w.heap.size, 1, none⟩ = some (.int .i64 (ext : Int)) ∧ x.cell? ⟨w.heap.size, 2, none⟩ = some (.int .i64 (size : Int))) := hide fun x hx => by
    have hg : x.heap[w.heap.size]? = some (.cells #[.int .i64 (n : Int), .int .i64 (ext : Int), .int .i64 (size : Int), .int .u32 (first : Int)] 35 (0, 0)) := (hx.block _ (by simp)).trans (Go.heap_alloc_new w _)
    exact ⟨cell_of_row _ _ _ _ _ _ hg, cell_of_row _ _ _ _ _ _ hg⟩
  have HBG : Hid (∀ (W y : World) (lp p bm : Nat), LgR y lp p bm (.slice none 0 0) (.slice none 0 0) (.slice none 0 0) ⟨n, [], [], [], []⟩ ext size first 0 → Below W.heap.size W y → (∀ b, GU lp p bm (.slice none 0 0) (.slice none 0 0) (.slice none 0 0) b → W.heap.size ≤ b) → Calls Try.prog 18 #[.pointer (some ⟨lp, 0, none⟩), .int .i64 ((ext : Int) - 1)] y fun e z => ∃ g kv' rv' iv', e = .returned (.tuple #[.agg #[.int .i64 0, .int .i64 ((ext : Int) - 1), .int .i64 (-1)], .slice (some ⟨g, 0, none⟩) size size, .int .i64 0]) ∧ LgR z lp p bm kv' rv' iv' ⟨n, [(ext : Int) - 1], [(ext : Int) - 1], [1], []⟩ ext size first 1 ∧ (⟨n, [(ext : Int) - 1], [(ext : Int) - 1], [1], []⟩ : LS).Ok 1 ∧ Below W.heap.size W z) := hide fun W y lp p bm hl hb hlo => by
    have hok : (⟨n, [], [], [], []⟩ : LS).Ok 0 := ⟨h1, h2, Nat.zero_le _, rfl, List.Pairwise.nil, List.Pairwise.nil, fun s => by simp, fun k hk => by simp at hk, fun r hr => by simp at hr, rfl⟩
    refine (begin_any hl hok (by omega) (by omega) h4 h5 ((ext : Int) - 1)).mono ?_
    rintro e z ⟨S', written', r, v2, kv', rv', iv', rfl, hr, hrc, hl2, ho2, hc2, hloc2⟩
    obtain ⟨rfl, rfl, e0, e1, e2, e3, e4⟩ := beg_first h1 (by omega) hr
    rw [e0, e1, e2, e3]
    rw [e4] at hrc
    obtain ⟨g, rfl, -, -, -⟩ := hrc
    rw [recOf_len (by omega)]
    exact ⟨g, kv', rv', iv', rfl, hl2, ho2, hb.trans (hc2.below hb.size hlo)⟩
  have HHT : Hid (∀ (W z : World) (lp p bm : Nat) kv' rv' iv', LgR z lp p bm kv' rv' iv' ⟨n, [(ext : Int) - 1], [(ext : Int) - 1], [1], []⟩ ext size first 1 → (⟨n, [(ext : Int) - 1], [(ext : Int) - 1], [1], []⟩ : LS).Ok 1 → Below W.heap.size W z → Calls Try.prog 46 #[.pointer (some ⟨lp, 0, none⟩)] z fun e u => ∃ g cap, e = .returned (.slice (some ⟨g, 0, none⟩) 1 cap) ∧ u.cell? ⟨g, 0, none⟩ = some (.int .i64 ((ext : Int) - 1)) ∧ 1 ≤ cap ∧ cap ≤ 9223372036854775807 ∧ Below W.heap.size W u) := hide fun W z lp p bm kv' rv' iv' hl ho hb => by
    refine (hot_any hl ho).mono ?_
    rintro e u ⟨v, rfl, hI, hb2, -⟩
    rw [hot_one] at hI
    obtain ⟨g, cap, rfl, hc⟩ := hI.at (i := 0) (by simp)
    obtain ⟨a', c', e', k1, k2⟩ := rowForm hI
    simp only [Value.slice.injEq] at e'
    unfold maxLen at k2
    obtain ⟨-, -, rfl⟩ := e'
    exact ⟨g, cap, rfl, hc, k1, by omega, hb.trans (hb2.mono hb.size)⟩
  have HFB : Hid (∀ x, Below (w.alloc (.cells #[.int .i64 (n : Int), .int .i64 (ext : Int), .int .i64 (size : Int), .int .u32 (first : Int)] 35)).heap.size (w.alloc (.cells #[.int .i64 (n : Int), .int .i64 (ext : Int), .int .i64 (size : Int), .int .u32 (first : Int)] 35)) x → Below w.heap.size w x) := hide fun x hx => HB0.out.trans (hx.mono HB0.out.size)
  have hwr : IntKind.i64.wrap ((ext : Int) - 1) = (ext : Int) - 1 := by simp [IntKind.wrap, IntKind.bits, IntKind.signed]; omega
  clear h1 h2 h3 h4 h5
  go_enter Try.func16, Try.ntmps16
  go_wp2_with (first
    | (go_at_call 29; refine (HN.out _).mono ?_; rintro e y ⟨lp, hlp, rfl, hl, hb⟩; have HL := hide hl; have HB1 := hide hb; obtain ⟨c1, c2⟩ := HBX.out _ hb; have HGU := hide (gu_new hlp); clear hl hb hlp HN)
    | (go_at_call 18; refine (HBG.out _ _ _ _ _ HL.out HB1.out HGU.out).mono ?_; rintro e z ⟨g, kv', rv', iv', rfl, hl, ho, hb⟩; have HL2 := hide hl; have HO2 := hide ho; have HZ := hide hb; obtain ⟨d1, d2⟩ := HBX.out _ hb; have HZC := hide ((Below.refl z.heap.size z).alloc (Nat.le_refl _) (.cells #[.int .i64 0, .int .i64 ((ext : Int) - 1), .int .i64 (-1)] 48)); have HL3 := hide (hl.below HZC.out); have HRF := hide (Below.refl (z.alloc (.cells #[.int .i64 0, .int .i64 ((ext : Int) - 1), .int .i64 (-1)] 48)).heap.size (z.alloc (.cells #[.int .i64 0, .int .i64 ((ext : Int) - 1), .int .i64 (-1)] 48))); clear hl ho hb HBG)
    | (go_at_call 46; refine (HHT.out _ _ _ _ _ _ _ _ HL3.out HO2.out HRF.out).mono ?_; rintro e u ⟨g2, cap, rfl, hc, k1, k2, hb⟩; have HU := hide ((HZ.out.trans (HZC.out.mono HZ.out.size)).trans (hb.mono (Nat.le_trans HZ.out.size HZC.out.size))); obtain ⟨e1, e2⟩ := HBX.out _ HU.out; have bx : u.heap[z.heap.size]? = some (.cells #[.int .i64 0, .int .i64 ((ext : Int) - 1), .int .i64 (-1)] 48 (0, 0)) := (hb.block _ (by simp)).trans (Go.heap_alloc_new z _); have m0 : u.cell? ⟨z.heap.size, 0, none⟩ = some (.int .i64 0) := cell_of_row _ _ _ _ _ _ bx; have m1 : u.cell? ⟨z.heap.size, 1, none⟩ = some (.int .i64 ((ext : Int) - 1)) := cell_of_row _ _ _ _ _ _ bx; have m2 : u.cell? ⟨z.heap.size, 2, none⟩ = some (.int .i64 (-1)) := cell_of_row _ _ _ _ _ _ bx; clear hb bx HHT)
    | (go_at_call 12; refine (HNU.out _ _).mono ?_; rintro e y2 ⟨rfl, hy⟩; subst hy))
  clear HZ HZC HL3 HRF HL2 HO2 HL HB1 HGU
  go_region_held3 (fun z' => z'.cell? ⟨w.heap.size, 1, none⟩ = some (.int .i64 (ext : Int)) ∧ z'.cell? ⟨w.heap.size, 2, none⟩ = some (.int .i64 (size : Int)) ∧ z'.cell? ⟨z.heap.size, 0, none⟩ = some (.int .i64 0) ∧ z'.cell? ⟨z.heap.size, 1, none⟩ = some (.int .i64 ((ext : Int) - 1)) ∧ z'.cell? ⟨z.heap.size, 2, none⟩ = some (.int .i64 (-1)) ∧ z'.cell? ⟨g2, 0, none⟩ = some (.int .i64 ((ext : Int) - 1))) (first | exact ⟨e1, e2, m0, m1, m2, hc⟩ | assumption)
    ((go_at_call 12; refine (HNU.out _ _).mono ?_; rintro e y2 ⟨rfl, hy⟩; subst hy))
  go_wp2_with fail
  go_ret
  exact ⟨by simp, HFB.out _ (HU.out.trans (Below.refl _ _).drew)⟩
end Go.Proofs.Ytlkccencilhacaa
