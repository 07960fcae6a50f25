import Derived.Test.YthkkinmegileaaaSLru7
namespace Go.Proofs.Ythkkinmegileaaa.St
open Go.RowKit Go.Sort
set_option linter.unusedVariables false
set_option linter.unusedSimpArgs false
set_option maxRecDepth 20000

/-- the key that went, or the empty text -/
def oldV (gone : Bool) (old : Int) : Value := if gone then .string (nm old) else .string ByteArray.empty
theorem LLoc.refl {w : World} {p bm : Nat} {kv rv iv iv' : Value} (h : iv'.ownBlock = iv.ownBlock) : LLoc w p bm kv rv iv kv rv iv' := by
  rintro b (e | e | e | e | e)
  · exact .inl (.inl e)
  · exact .inl (.inr (.inl e))
  · exact .inl (.inr (.inr (.inl e)))
  · exact .inl (.inr (.inr (.inr (.inl e))))
  · exact .inl (.inr (.inr (.inr (.inr (h ▸ e)))))
/-- what the map says of a key -/
theorem LRep.look {w : World} {p bm : Nat} {kv rv iv : Value} {S : LS} {M : Nat} (h : LRep w p bm kv rv iv S) (hS : S.Ok M) (key : Int) : ∃ D : DataW Unit, w.ownsMap Try.prog 9 (plainElem Try.prog 3) bm 16 D ∧ (∀ s : Nat, S.ks[s]? = some key → Maps.has D (kL key) = true ∧ ∀ c, D.atKey (kL key) (.lit (.int .i64 0)) = .lit (.int .i64 c) → c = s) ∧ (key ∉ S.ks → Maps.has D (kL key) = false ∧ ∀ c, D.atKey (kL key) (.lit (.int .i64 0)) = .lit (.int .i64 c) → c = 0) := by
  obtain ⟨D, hown, hDs, hD1, hD2⟩ := h.mp
  rw [hS.me] at hDs hD1 hD2
  refine ⟨D, hown, fun s hs => ⟨(hD1 s key hs).1, fun c hc => ?_⟩, fun hn => ⟨hD2 key hn, fun c hc => ?_⟩⟩
  · rw [(hD1 s key hs).2] at hc
    simpa using hc.symm
  · rw [Maps.atKey_of_not_has (hD2 key hn)] at hc
    simpa using hc.symm
set_option maxHeartbeats 2000000 in
theorem Get_any {w : World} {p bm : Nat} {kv rv iv : Value} {S : LS} {M : Nat} {key : Int} (h : LRep w p bm kv rv iv S) (hS : S.Ok M) (hM : M ≤ 4611686018427387904) (hk : i64ok key) :
    Calls Try.prog 20 #[.pointer (some ⟨p, 0, none⟩), .string (nm key)] w fun e w' => ∃ S' slot fresh old gone er kv' rv' iv', GetRes S key S' slot fresh old gone er ∧ e = .returned (.tuple #[.int .i64 (slot : Int), .bool fresh, oldV gone old, .bool gone, .int .i64 er]) ∧ LRep w' p bm kv' rv' iv' S' ∧ S'.Ok (M + 1) ∧ Chg (LU p bm kv rv iv) w w' ∧ LLoc w p bm kv rv iv kv' rv' iv' := by
  have hkey := keyS hk
  obtain ⟨D, hown, hD1, hD2⟩ := h.look hS key
  have c1 : w.cell? ⟨p, 1, none⟩ = some (.map (some bm)) := h.c 1
  have hsl := hS.s2
  by_cases hin : key ∈ S.ks
  · obtain ⟨s, hs⟩ := List.getElem?_of_mem hin
    obtain ⟨hh, hc⟩ := hD1 s hs
    have hsr : s < S.rs.length := by rw [hS.rl]; exact (List.getElem?_eq_some_iff.1 hs).1
    have hrs : S.rs[s]? = some S.rs[s] := List.getElem?_eq_getElem hsr
    have HT := hide (take_any h hS hM hrs)
    have HOK := hide (hS.take hrs)
    have HG : Hid (GetRes S key (S.take s) s false 0 false 0) := hide (.inl ⟨s, hs, rfl, rfl, rfl, rfl, rfl, rfl⟩)
    clear h hS hs hrs hsr hD1 hD2 hin
    go_enter Try.func20, Try.ntmps20
    go_wp2_with (at_lookup; refine wpList_lookup_own_ok_int _ rfl _ _ 65 rfl 9 3 .i64 kStr Try.underlying65 Try.underlying3 (zeroI _) bm 16 D rfl hown _ (kL key) rfl hkey ?_)
    intro c hat hwc
    obtain rfl := hc c hat
    clear hat hwc hc hh
    go_wp2_with (first
      | (go_at_call 51; refine HT.out.mono ?_; rintro e w1 ⟨rfl, iv', q1, q2, q3⟩; have HR := hide (And.intro q1 (And.intro q2 q3)); clear q1 q2 q3))
    (try simp only [Exit.inBlock, Exit.then]); refine bodyPost_ret (results_tmp5 rfl _ _ _) rfl ?_
    exact ⟨_, _, _, _, _, _, _, _, _, HG.out, rfl, HR.out.1, HOK.out, HR.out.2.2, LLoc.refl HR.out.2.1⟩
  obtain ⟨hh, hc⟩ := hD2 hin
  have hkl := hS.kl
  obtain ⟨ak, ck, ekv, hk1, hk2⟩ := rowForm h.ko
  obtain ⟨ai, ci, eiv, hi1, hi2⟩ := rowForm h.io
  subst ekv eiv
  have c0 : w.cell? ⟨p, 0, none⟩ = some (.int .i64 (S.slots : Int)) := h.c 0
  have c2 : w.cell? ⟨p, 2, none⟩ = some (.slice ak S.ks.length ck) := h.c 2
  have c4 : w.cell? ⟨p, 4, none⟩ = some (.slice ai S.idle.length ci) := h.c 4
  unfold maxLen at hk2 hi2
  have HD : Hid (∀ j, LRep (w.drewN j) p bm (.slice ak S.ks.length ck) rv (.slice ai S.idle.length ci) S ∧ Below w.heap.size w (w.drewN j)) := hide fun j => by
    have hb := below_drewN (Below.refl w.heap.size w) j
    exact ⟨h.below hb, hb⟩
  by_cases hroom : S.ks.length < S.slots
  · have HA : Hid (∀ j, Calls Try.prog 52 #[.pointer (some ⟨p, 0, none⟩), .string (nm key)] (w.drewN j) fun e w' => e = .returned (.int .i64 (S.ks.length : Int)) ∧ ∃ kv' rv', LRep w' p bm kv' rv' (.slice ai S.idle.length ci) (S.add key) ∧ Chg (LU p bm (.slice ak S.ks.length ck) rv (.slice ai S.idle.length ci)) w w' ∧ LLoc w p bm (.slice ak S.ks.length ck) rv (.slice ai S.idle.length ci) kv' rv' (.slice ai S.idle.length ci)) := hide fun j => by
      obtain ⟨q1, q2⟩ := HD.out j
      refine (add_any q1 hS hk hin hroom).mono ?_
      rintro e w' ⟨rfl, kv', rv', z1, z2, z3⟩
      exact ⟨rfl, kv', rv', z1, (Chg.ofBelow q2).trans z2, fun b e => (z3 b e).imp id fun e => Nat.le_trans q2.size e⟩
    have HOK := hide (hS.add hk hin hroom)
    have HG : Hid (GetRes S key (S.add key) S.ks.length true 0 false 0) := hide (.inr (.inl ⟨hin, hroom, rfl, rfl, rfl, rfl, rfl, rfl⟩))
    clear h hS hD1 hD2 hin
    generalize S.ks.length = nk at *
    generalize S.idle.length = ni at *
    generalize S.slots = ns at *
    go_enter Try.func20, Try.ntmps20
    go_wp2_with (at_lookup; refine wpList_lookup_own_ok_int _ rfl _ _ 65 rfl 9 3 .i64 kStr Try.underlying65 Try.underlying3 (zeroI _) bm 16 D rfl hown _ (kL key) rfl hkey ?_)
    intro c hat hwc
    obtain rfl := hc c hat
    clear hat hwc hc hh
    go_wp2_with fail
    go_quiet (fail)
    go_wp2_with (first
      | (go_at_call 52; refine (HA.out _).mono ?_; rintro e w1 ⟨rfl, kv', rv', q1, q2, q3⟩; have HR := hide (And.intro q1 (And.intro q2 q3)); clear q1 q2 q3))
    (try simp only [Exit.inBlock, Exit.then]); refine bodyPost_ret (results_tmp5 rfl _ _ _) rfl ?_
    exact ⟨_, _, _, _, _, _, _, _, _, HG.out, rfl, HR.out.1, HOK.out, HR.out.2.1, HR.out.2.2⟩
  have hfull : S.ks.length = S.slots := by omega
  have hbt : ((S.ks.length : Int) < (S.slots : Int)) = False := by simp; omega
  have hidc : S.idle = [] ∨ ∃ s r, S.idle = s :: r := by cases S.idle with
    | nil => exact .inl rfl
    | cons s r => exact .inr ⟨s, r, rfl⟩
  rcases hidc with hid | ⟨s, r, hid⟩
  · have HG : Hid (GetRes S key S 0 false 0 false 41) := hide (.inr (.inr (.inr ⟨hin, hfull, hid, rfl, rfl, rfl, rfl, rfl, rfl⟩)))
    have HOK := hide (hS.more (Nat.le_succ M))
    have hil : S.idle.length = 0 := by rw [hid]; rfl
    have HCG : Hid (∀ j, Chg (LU p bm (.slice ak S.ks.length ck) rv (.slice ai S.idle.length ci)) w (w.drewN j)) := hide fun j => Chg.ofBelow (HD.out j).2
    have HC4 : Hid (∀ j, (w.drewN j).cell? ⟨p, 4, none⟩ = some (.slice ai S.idle.length ci)) := hide fun j => (HD.out j).1.c 4
    clear h hS hD1 hD2 hin hid hfull hbt hkl
    generalize S.ks.length = nk at *
    generalize S.idle.length = ni at *
    generalize S.slots = ns at *
    subst hil
    go_enter Try.func20, Try.ntmps20
    go_wp2_with (at_lookup; refine wpList_lookup_own_ok_int _ rfl _ _ 65 rfl 9 3 .i64 kStr Try.underlying65 Try.underlying3 (zeroI _) bm 16 D rfl hown _ (kL key) rfl hkey ?_)
    intro c hat hwc
    obtain rfl := hc c hat
    clear hat hwc hc hh
    go_wp2_with fail
    go_quiet (fail)
    have c4j := HC4.out
    go_wp2_with fail
    (try simp only [Exit.inBlock, Exit.then]); refine bodyPost_ret (results_tmp5 rfl _ _ _) rfl ?_
    exact ⟨_, _, _, _, _, _, _, _, _, HG.out, rfl, (HD.out _).1, HOK.out, HCG.out _, LLoc.refl rfl⟩
  · have hmem : s ∈ S.idle := by rw [hid]; simp
    have hr0 := (hS.im s).1 hmem
    have hsk : s < S.ks.length := by rw [← hS.rl]; exact (List.getElem?_eq_some_iff.1 hr0).1
    have hso : S.ks[s]? = some S.ks[s] := List.getElem?_eq_getElem hsk
    have HG : Hid (GetRes S key (({ S with mks := S.ks.set s key, ks := S.ks.set s key } : LS).take s) s true S.ks[s] true 0) := hide (.inr (.inr (.inl ⟨hin, hfull, s, r, S.ks[s], hid, hso, rfl, rfl, rfl, rfl, rfl, rfl⟩)))
    have HOK : Hid ((({ S with mks := S.ks.set s key, ks := S.ks.set s key } : LS).take s).Ok (M + 1)) := hide ((hS.setk hk hin).take hr0)
    have hi0 : S.idle[0]? = some s := by rw [hid]; rfl
    obtain ⟨g, cap, cs, eiv, hc0, -⟩ := row_at h.io hi0
    simp only [Value.slice.injEq] at eiv
    obtain ⟨rfl, -, -⟩ := eiv
    have hil : 0 < S.idle.length := by rw [hid]; simp
    have HC4 : Hid (∀ j, (w.drewN j).cell? ⟨p, 4, none⟩ = some (.slice (some ⟨g, 0, none⟩) S.idle.length ci) ∧ (w.drewN j).cell? ⟨g, 0, none⟩ = some (.int .i64 (s : Int))) := hide fun j => ⟨(HD.out j).1.c 4, by
      rw [(HD.out j).2.cell (p := ⟨g, 0, none⟩) (World.block_lt_of_cell? w _ hc0)]; exact hc0⟩
    have HRP : Hid (∀ j, Calls Try.prog 53 #[.pointer (some ⟨p, 0, none⟩), .int .i64 (s : Int), .string (nm key)] (w.drewN j) fun e w' => e = .returned (.string (nm S.ks[s])) ∧ ∃ iv', LRep w' p bm (.slice ak S.ks.length ck) rv iv' (({ S with mks := S.ks.set s key, ks := S.ks.set s key } : LS).take s) ∧ iv'.ownBlock = (Value.slice (some ⟨g, 0, none⟩) S.idle.length ci).ownBlock ∧ Chg (LU p bm (.slice ak S.ks.length ck) rv (.slice (some ⟨g, 0, none⟩) S.idle.length ci)) w w') := hide fun j => by
      obtain ⟨q1, q2⟩ := HD.out j
      refine (replace_any q1 hS hM hk hin hso hr0).mono ?_
      rintro e w' ⟨rfl, iv', z1, z2, z3⟩
      exact ⟨rfl, iv', z1, z2, (Chg.ofBelow q2).trans z3⟩
    generalize S.ks[s] = old at *
    clear h hS hD1 hD2 hin hid hfull hbt hkl hmem hr0 hsk hso hi0 HD
    generalize S.ks.length = nk at *
    generalize S.idle.length = ni at *
    generalize S.slots = ns at *
    go_enter Try.func20, Try.ntmps20
    go_wp2_with (at_lookup; refine wpList_lookup_own_ok_int _ rfl _ _ 65 rfl 9 3 .i64 kStr Try.underlying65 Try.underlying3 (zeroI _) bm 16 D rfl hown _ (kL key) rfl hkey ?_)
    intro c hat hwc
    obtain rfl := hc c hat
    clear hat hwc hc hh
    go_wp2_with fail
    go_quiet (fail)
    have c4j := fun j => (HC4.out j).1
    have c5j := fun j => (HC4.out j).2
    go_wp2_with (first
      | (go_at_call 53; refine (HRP.out _).mono ?_; rintro e w1 ⟨rfl, iv', q1, q2, q3⟩; have HR := hide (And.intro q1 (And.intro q2 q3)); clear q1 q2 q3))
    (try simp only [Exit.inBlock, Exit.then]); refine bodyPost_ret (results_tmp5 rfl _ _ _) rfl ?_
    exact ⟨_, _, _, _, _, _, _, _, _, HG.out, rfl, HR.out.1, HOK.out, HR.out.2.2, LLoc.refl HR.out.2.1⟩
end Go.Proofs.Ythkkinmegileaaa.St
