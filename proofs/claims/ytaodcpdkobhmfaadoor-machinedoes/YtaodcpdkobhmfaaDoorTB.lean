/- MachineDoes, walked: both machines are made. -/
import Derived.Test.YtaodcpdkobhmfaaDoorMT
namespace Go.Proofs.YtaodcpdkobhmfaaDoor
open Go Go.RowKit

theorem bare_ok (w : World) (hg : ErrT w) : Calls Tryd.prog 8 #[.nilIface, .int .i64 0] w fun e w' => e = .returned (.bool true) ∧ Below w.heap.size w w' :=
  (bare_nil 0 w hg).mono fun e w' ⟨h1, h2⟩ => ⟨by rw [h1]; simp, h2⟩
theorem bare_load (L : Nat) (a : Int) (w : World) (hg : ErrT w) : Calls Tryd.prog 8 #[loadE L a, .int .i64 (dlE L a)] w fun e w' => e = .returned (.bool true) ∧ Below w.heap.size w w' := by
  unfold loadE dlE
  by_cases h : hasB L a 8 = true
  · rw [if_pos h, if_pos h]; exact bare_ok w hg
  · rw [if_neg h, if_neg h]; exact (bare_err 2 2 w hg).mono fun e w' ⟨h1, h2⟩ => ⟨by rw [h1]; simp, h2⟩

theorem Rd.below' {X w : World} {v : Value} {l : List Int} (h : Rd X v l) (hb : Below X.heap.size X w) (hl : l ≠ []) : ∃ g o c, v = .slice (some ⟨g, o, none⟩) l.length c ∧ ∀ j, j < l.length → w.cell? ⟨g, o + j, none⟩ = some (.int .i64 (l.getD j 0)) := by
  obtain ⟨p, c, h1, h2⟩ := h.below hb
  obtain ⟨g, o, h3, h4⟩ := h2 hl
  exact ⟨g, o, c, by rw [h1, h3], h4⟩

/-- What the rest of the law needs. -/
structure Rest (X W : World) (N L B1 s1 mb1 B2 s2 mb2 : Nat) (m : MS) : Prop where
  pair : PairE X W N L B1 s1 mb1 B2 s2 mb2 60 m m
  wel : Wel L m
  L8 : L % 8 = 0

set_option maxRecDepth 100000 in
set_option maxHeartbeats 4000000 in
theorem does_fine (X : World) (wv : Value) (q r t : Option Addr) (c d e L : Nat) (x : Int) (ws G A : List Int) (hn : ws.length ≤ 60) (hk : G.length ≤ 20) (ha : A.length ≤ 20) (hwv : wv = .slice q ws.length c) (hW : WV X wv ws) (hG : Src X (.slice r G.length d) G) (hGr : ∀ x ∈ G, I64 x) (hA : Rd X (.slice t A.length e) A)
    (he : ErrT X) (ht : Tabs T X) (hX : 2 < X.heap.size) (hL0 : 8 ≤ L) (hL1 : L ≤ 65536) (hL2 : (L : Int) % 8 = 0) (hL4 : 4 * ws.length ≤ L) :
    Calls Tryd.prog 3 #[.slice q ws.length c, .int .i64 (L : Int), .slice r G.length d, .int .i64 x, .slice t A.length e] X fun ev w' => ev = .returned (.bool true) ∧ Below X.heap.size X w' := by
  have H6 : Hid (∀ (w1 : World) (iv : Value), Below X.heap.size X w1 → GivIn w1 iv G → Calls Tryd.prog 6 #[.slice q ws.length c, .int .i64 (L : Int), iv] w1 fun e w' => ∃ s, e = .returned (.tuple #[.pointer (some ⟨s, 0, none⟩), .int .i64 0]) ∧ ∃ mb, DMac w' w1.heap.size s mb 60 L (newV L ws G) iv (.slice none 0 0) ∧ Below w1.heap.size w1 w') := fun w1 iv hb hg => by
    rw [← hwv]; exact newdoc_any w1 wv ws L iv G hL0 hL1 hL2 hL4 (hW.below hb) hg (by have := hb.size; omega) hn
  have H7 : Hid (∀ (w2 : World), Below X.heap.size X w2 → Calls Tryd.prog 7 #[.slice q ws.length c, .int .i64 (L : Int), .slice r G.length d] w2 fun e w' => ∃ s, e = .returned (.tuple #[.pointer (some ⟨s, 0, none⟩), .nilIface]) ∧ ∃ mb gv, Mac w' w2.heap.size s mb L (newV L ws G) gv (.slice none 0 0) ∧ Below w2.heap.size w2 w' ∧ ∀ k, gv.ownBlock = some k → w2.heap.size ≤ k ∧ k < s) := fun w2 hb => by
    rw [← hwv]; exact new_any w2 wv ws L _ G hL0 hL1 hL2 hL4 (hW.below hb) (hG.below hb) (by omega) (by have := hb.size; omega)
  have HWE : Hid (Wel L (newV L ws G)) := wel_new hL1 hGr
  have HPN : Hid (∀ {w1 w2 w3 : World} {s1 mb1 s2 mb2 : Nat} {gv1 gv2 : Value}, Below X.heap.size X w1 → DMac w2 w1.heap.size s2 mb2 60 L (newV L ws G) gv2 (.slice none 0 0) → Below w1.heap.size w1 w2 → Mac w3 w2.heap.size s1 mb1 L (newV L ws G) gv1 (.slice none 0 0) → Below w2.heap.size w2 w3 → Rest X w3 w3.heap.size L w2.heap.size s1 mb1 w1.heap.size s2 mb2 (newV L ws G)) := fun a b c d e => ⟨pair_new hX ht he a b c d e, HWE.out, by omega⟩
  have HA : Hid (Rd X (.slice t A.length e) A) := hA
  obtain ⟨i0, hi0, hz0, hz1, hz2⟩ := info_parts info2
  obtain ⟨S, hS60, hS⟩ : ∃ S : Nat, S < 60 ∧ wrap64 ((IntKind.u64.wrap x).tmod 60) = (S : Int) := by
    refine ⟨(x % 18446744073709551616 % 60).toNat, by omega, ?_⟩
    rw [IntKind.wrap_u64, Int.tmod_eq_emod_of_nonneg (by omega)]
    unfold wrap64
    omega
  clear hW hA he ht hwv hL4 hL2
  generalize newV L ws G = m0 at *
  generalize ws.length = n at *
  rcases hG with ⟨hv, hl⟩ | ⟨ad, c2, hv, hc⟩
  · subst hl
    injection hv with hr _ hd
    subst hr hd
    have HB1 : Hid (Below X.heap.size X (X.alloc (.cells #[] 2))) := (Below.refl X.heap.size X).alloc (Nat.le_refl _) _
    go_enter Tryd.func3, Tryd.ntmps3
    go_wp2_with (first
      | (go_at_call 6; refine (H6.out _ _ HB1.out (.inl ⟨rfl, _, _, rfl⟩)).mono ?_; rintro e w2 ⟨s2, rfl, mb2, hD, hb2⟩; have HD : Hid (DMac _ _ _ _ _ _ _ _ _) := hD; have HB2 : Hid (Below _ _ w2) := hb2; clear hD hb2)
      | (go_at_call 7; refine (H7.out _ (HB1.out.trans (HB2.out.mono HB1.out.size))).mono ?_; rintro e w3 ⟨s1, rfl, mb1, gv1, hM, hb3, _⟩; have HR : Hid (Rest _ _ _ _ _ _ _ _ _ _ _) := HPN.out HB1.out HD.out HB2.out hM hb3; clear hM hb3 HD HB2)
      | (go_at_call 8; refine (bare_ok _ HR.out.pair.err).mono ?_; rintro e w4 ⟨rfl, hb4⟩; have HR4 : Hid (Rest _ w4 _ _ _ _ _ _ _ _ _) := ⟨HR.out.pair.grown hb4, HR.out.wel, HR.out.L8⟩; clear hb4)
      | go_in)
    obtain ⟨N, B1, B2, hR⟩ : ∃ N B1 B2, Rest X w4 N L B1 s1 mb1 B2 s2 mb2 m0 := ⟨_, _, _, HR4.out⟩
    clear HR4 HR HPN H6 H7 HWE HB1
    have HR4 : Hid (Rest X w4 N L B1 s1 mb1 B2 s2 mb2 m0) := hR
    clear hR
    go_loopw [15] (fun i wr => ∃ j : Nat, j ≤ S ∧ i = .int .i64 j ∧ Hid (PairE X wr N L B1 s1 mb1 B2 s2 mb2 (60 + j) (runV L j m0) (runV L j m0))) (fun i _ => S - (intOf i).toNat)
    case atStart => exact ⟨0, Nat.zero_le _, rfl, HR4.out.pair⟩
    case round =>
      obtain ⟨j, hj, rfl, hp⟩ := hrel
      by_cases hlt : j < S
      · have HX : Hid (stepV L (runV L j m0) = runV L (j + 1) m0) := by show _ = _; rw [← runV_succ]
        have HNN : Hid (60 + j < 100000) := by show _ < _; omega
        go_wp2_with (first
          | (go_at_call 9; refine hp.out.stepA.mono ?_; rintro e w5 ⟨rfl, h5⟩; have HP5 : Hid (PairE X w5 _ _ _ _ _ _ _ _ _ _ _) := h5; clear h5)
          | (go_at_call 10; refine (HP5.out.stepB HR4.out.L8 (HR4.out.wel.run j) HNN.out).mono ?_; rintro e w6 ⟨rfl, h6⟩; have HP6 : Hid (PairE X w6 _ _ _ _ _ _ _ _ _ _ _) := h6; clear h6)
          | (go_at_call 11; refine HP6.out.same.mono ?_; rintro e w7 ⟨rfl, h7⟩; have HP7 : Hid (PairE X w7 _ _ _ _ _ _ _ _ _ _ _) := h7; clear h7)
          | go_in)
        refine ⟨⟨j + 1, by omega, by go_num, ?_⟩, by simp [intOf]; omega⟩
        rw [← HX.out]
        exact HP7.out
      · obtain rfl : j = S := by omega
        have HQ : Hid (∃ m, PairE X wr N L B1 s1 mb1 B2 s2 mb2 (120 + 0) m m ∧ Wel L m) := ⟨_, hp.out.more (by omega), HR4.out.wel.run _⟩
        have HL8 : Hid (L % 8 = 0) := HR4.out.L8
        clear hp HR4
        go_wp2_with fail
        clear hS
        go_loopw [16] (fun i wr => ∃ j : Nat, j ≤ A.length ∧ i = .int .i64 j ∧ Hid (∃ m, PairE X wr N L B1 s1 mb1 B2 s2 mb2 (120 + j) m m ∧ Wel L m)) (fun i _ => A.length - (intOf i).toNat)
        case atStart => exact ⟨0, Nat.zero_le _, rfl, HQ⟩
        case round =>
          clear HQ
          obtain ⟨j, hj, rfl, hp⟩ := hrel
          obtain ⟨m, hp1, hw1⟩ := hp.out
          have HP : Hid (PairE X wr N L B1 s1 mb1 B2 s2 mb2 (120 + j) m m) := hp1
          have HWW : Hid (Wel L m) := hw1
          clear hp1 hw1 hp
          by_cases hlt : j < A.length
          · obtain ⟨g, o, ce, hve, hcell⟩ := HA.out.below' HP.out.bel (by intro e; rw [e] at hlt; simp at hlt)
            injection hve with hvt _ hve2
            subst hvt hve2
            have ca := hcell j hlt
            clear hcell
            have HNN : Hid (120 + j < 100000) := by show _ < _; omega
            generalize A.getD j 0 = av at *
            have HLB : Hid (Calls Tryd.prog 12 #[.pointer (some ⟨s2, 0, none⟩), .int .i64 av] wr fun e w' => e = .returned (.tuple #[.int .i64 (dlV L m.M av), .int .i64 (dlE L av)]) ∧ w' = wr) := HP.out.loadB av
            have HLA : Hid (Calls Tryd.prog 13 #[.pointer (some ⟨s1, 0, none⟩), .int .i64 av] wr fun e w' => e = .returned (.tuple #[.int .i64 (dlV L m.M av), loadE L av]) ∧ w' = wr) := HP.out.loadA av
            have HBR : Hid (∀ w, ErrT w → Calls Tryd.prog 8 #[loadE L av, .int .i64 (dlE L av)] w fun e w' => e = .returned (.bool true) ∧ Below w.heap.size w w') := fun w h => bare_load L av w h
            have HSA : Hid (∀ w v, PairE X w N L B1 s1 mb1 B2 s2 mb2 (120 + j) m m → Calls Tryd.prog 14 #[.pointer (some ⟨s1, 0, none⟩), .int .i64 av, .int .i64 v] w fun e W' => e = .returned (loadE L av) ∧ PairE X W' N L B1 s1 mb1 B2 s2 mb2 (120 + j) (stV L m av v) m) := fun w v h => h.storeA av v
            have HSB : Hid (∀ w v, I64 v → PairE X w N L B1 s1 mb1 B2 s2 mb2 (120 + j) (stV L m av v) m → Calls Tryd.prog 15 #[.pointer (some ⟨s2, 0, none⟩), .int .i64 av, .int .i64 v] w fun e W' => e = .returned (.int .i64 (dlE L av)) ∧ PairE X W' N L B1 s1 mb1 B2 s2 mb2 (120 + j + 1) (stV L m av v) (stV L m av v)) := fun w v hv h => h.storeB av v hv HNN.out
            generalize dlV L m.M av = dv at *
            generalize dlE L av = de at *
            generalize loadE L av = le at *
            go_wp2_with (first
              | (go_at_call 12; refine HLB.out.mono ?_; rintro e wr ⟨rfl, rfl⟩)
              | (go_at_call 13; refine HLA.out.mono ?_; rintro e wr ⟨rfl, rfl⟩)
              | (go_at_call 8; fail))
            refine (HBR.out _ HP.out.err).mono ?_
            rintro e w4 ⟨rfl, hb4⟩
            have HP4 : Hid (PairE X w4 N L B1 s1 mb1 B2 s2 mb2 (120 + j) m m) := HP.out.grown hb4
            clear hb4
            go_wp2_with (first
              | (go_at_call 14; refine (HSA.out _ _ HP4.out).mono ?_; rintro e w5 ⟨rfl, h5⟩; have HP5 : Hid (PairE X w5 _ _ _ _ _ _ _ _ _ _ _) := h5; clear h5)
              | (go_at_call 15; refine (HSB.out _ _ (wrap64_in _) HP5.out).mono ?_; rintro e w6 ⟨rfl, h6⟩; have HP6 : Hid (PairE X w6 _ _ _ _ _ _ _ _ _ _ _) := h6; clear h6)
              | (go_at_call 8; fail))
            refine (HBR.out _ HP6.out.err).mono ?_
            rintro e w7 ⟨rfl, hb7⟩
            have HP7 : Hid (PairE X w7 _ _ _ _ _ _ _ _ _ _ _) := HP6.out.grown hb7
            clear hb7
            go_wp2
            exact ⟨⟨j + 1, by omega, by go_num, ⟨_, HP7.out, stV_wel HWW.out _ _⟩⟩, by simp [intOf]; omega⟩
          · have hje : j = A.length := by omega
            have HRA : Hid (Calls Tryd.prog 17 #[.pointer (some ⟨s1, 0, none⟩), .int .i64 300] wr fun e W' => ∃ v', e = .returned (.agg #[.int .i64 (wayV (runV L 300 m)), .int .i64 (runV L 300 m).code, v']) ∧ ∃ gv1 ov1 gv2 ov2, Pair X W' N L B1 s1 mb1 B2 s2 mb2 (120 + j) (runV L 300 m) m gv1 ov1 gv2 ov2 ∧ W'.ownsRow N 2 1 v' (runV L 300 m).out.length (outL (runV L 300 m).out) ∧ ∀ k, v'.ownBlock = some k → ov2.ownBlock ≠ some k) := HP.out.runA 300 (by omega)
            go_wp2_with (go_at_call 17; fail)
            refine HRA.out.mono ?_
            rintro e w5 ⟨v1, rfl, gv1', ov1', gv2', ov2', hp5, hown, hkk⟩
            have HRB : Hid (Calls Tryd.prog 18 #[.pointer (some ⟨s2, 0, none⟩), .int .i64 300] w5 fun e W' => ∃ v2, e = .returned (.agg #[.int .i64 (wayV (runV L 300 m)), .int .i64 (runV L 300 m).code, v2]) ∧ PairE X W' N L B1 s1 mb1 B2 s2 mb2 (120 + j + 300) (runV L 300 m) (runV L 300 m) ∧ Rd W' v1 (runV L 300 m).out ∧ Rd W' v2 (runV L 300 m).out ∧ (runV L 300 m).out.length ≤ 200) := hp5.runB 300 HL8.out HWW.out (by omega) hown hkk
            clear hp5 hown hkk HRA HP
            go_wp2_with (go_at_call 18; fail)
            refine HRB.out.mono ?_
            rintro e w6 ⟨v2, rfl, hp6, r1, r2, hl6⟩
            have HSE : Hid (Calls Tryd.prog 16 #[.agg #[.int .i64 (wayV (runV L 300 m)), .int .i64 (runV L 300 m).code, v1], .agg #[.int .i64 (wayV (runV L 300 m)), .int .i64 (runV L 300 m).code, v2]] w6 fun e w' => e = .returned (.bool true) ∧ Below w6.heap.size w6 w') := ends_same w6 _ _ v1 v2 _ r1 r2 (by omega)
            have HP6 : Hid (PairE X w6 _ _ _ _ _ _ _ _ _ _ _) := hp6
            clear hp6 r1 r2 hl6 HRB
            go_wp2_with (go_at_call 16; fail)
            refine HSE.out.mono ?_
            rintro e w7 ⟨rfl, hb7⟩
            have HP7 : Hid (PairE X w7 _ _ _ _ _ _ _ _ _ _ _) := HP6.out.grown hb7
            clear hb7
            go_wp2_with (go_at_call 11; fail)
            refine HP7.out.same.mono ?_
            rintro e w8 ⟨rfl, h8⟩
            have HB8 : Hid (Below X.heap.size X w8) := h8.bel
            clear h8
            go_wp2
            go_ret
            exact ⟨rfl, HB8.out⟩
  · injection hv with hr _ hd
    subst hr hd
    have HN : Hid (∀ j u, (outL G)[j]? = some u → (X.alloc (.cells #[] 2)).cell? (ad.add j) = some u) := fun j u hu => by
      have h0 := hc j u hu
      rw [World.cell?_alloc_lt _ _ _ (block_lt_of_cell h0)]; exact h0
    have HOW : Hid ((X.alloc (.cells #[] 2)).ownsRow X.heap.size 2 1 (.slice (some ⟨X.heap.size, 0, none⟩) 0 0) 0 []) := World.ownsRow_made (base := X.heap.size) (e := 2) (size := 1) X #[] 0 (Nat.le_refl _) (by unfold maxLen; omega) rfl
    clear hc
    go_enter Tryd.func3, Tryd.ntmps3
    go_wp2_with (first
      | (at_builtin; refine wpList_append_own _ rfl _ _ 23 rfl X.heap.size 2 i0 (.int .i64 0) 1 8 Tryd.underlying23 hi0 hz0 hz1 hz2 rfl (by decide) (.slice (some ⟨X.heap.size, 0, none⟩) 0 0) 0 [] rfl HOW.out ad G.length d (outL G) rfl (by simp [outL]) HN.out (outL_one G) (by unfold maxLen; omega) (by omega) (by simp) ?_; intro v' w1 hown hgrow _; have HB1 : Hid (Below X.heap.size X w1) := ((Below.refl X.heap.size X).alloc (Nat.le_refl _) _).grown hgrow (by simp) (fun k e => by simp [Value.ownBlock] at e; omega); have HG1 : Hid (GivIn w1 v' G) := GivIn.of_own (B := X.heap.size) (by simpa using hown); clear hown hgrow)
      | (go_at_call 6; refine (H6.out _ _ HB1.out HG1.out).mono ?_; rintro e w2 ⟨s2, rfl, mb2, hD, hb2⟩; have HD : Hid (DMac _ _ _ _ _ _ _ _ _) := hD; have HB2 : Hid (Below _ _ w2) := hb2; clear hD hb2)
      | (go_at_call 7; refine (H7.out _ (HB1.out.trans (HB2.out.mono HB1.out.size))).mono ?_; rintro e w3 ⟨s1, rfl, mb1, gv1, hM, hb3, _⟩; have HR : Hid (Rest _ _ _ _ _ _ _ _ _ _ _) := HPN.out HB1.out HD.out HB2.out hM hb3; clear hM hb3 HD HB2)
      | (go_at_call 8; refine (bare_ok _ HR.out.pair.err).mono ?_; rintro e w4 ⟨rfl, hb4⟩; have HR4 : Hid (Rest _ w4 _ _ _ _ _ _ _ _ _) := ⟨HR.out.pair.grown hb4, HR.out.wel, HR.out.L8⟩; clear hb4)
      | go_in)
    obtain ⟨N, B1, B2, hR⟩ : ∃ N B1 B2, Rest X w4 N L B1 s1 mb1 B2 s2 mb2 m0 := ⟨_, _, _, HR4.out⟩
    clear HR4 HR HPN H6 H7 HWE HB1
    have HR4 : Hid (Rest X w4 N L B1 s1 mb1 B2 s2 mb2 m0) := hR
    clear hR
    go_loopw [15] (fun i wr => ∃ j : Nat, j ≤ S ∧ i = .int .i64 j ∧ Hid (PairE X wr N L B1 s1 mb1 B2 s2 mb2 (60 + j) (runV L j m0) (runV L j m0))) (fun i _ => S - (intOf i).toNat)
    case atStart => exact ⟨0, Nat.zero_le _, rfl, HR4.out.pair⟩
    case round =>
      obtain ⟨j, hj, rfl, hp⟩ := hrel
      by_cases hlt : j < S
      · have HX : Hid (stepV L (runV L j m0) = runV L (j + 1) m0) := by show _ = _; rw [← runV_succ]
        have HNN : Hid (60 + j < 100000) := by show _ < _; omega
        go_wp2_with (first
          | (go_at_call 9; refine hp.out.stepA.mono ?_; rintro e w5 ⟨rfl, h5⟩; have HP5 : Hid (PairE X w5 _ _ _ _ _ _ _ _ _ _ _) := h5; clear h5)
          | (go_at_call 10; refine (HP5.out.stepB HR4.out.L8 (HR4.out.wel.run j) HNN.out).mono ?_; rintro e w6 ⟨rfl, h6⟩; have HP6 : Hid (PairE X w6 _ _ _ _ _ _ _ _ _ _ _) := h6; clear h6)
          | (go_at_call 11; refine HP6.out.same.mono ?_; rintro e w7 ⟨rfl, h7⟩; have HP7 : Hid (PairE X w7 _ _ _ _ _ _ _ _ _ _ _) := h7; clear h7)
          | go_in)
        refine ⟨⟨j + 1, by omega, by go_num, ?_⟩, by simp [intOf]; omega⟩
        rw [← HX.out]
        exact HP7.out
      · obtain rfl : j = S := by omega
        have HQ : Hid (∃ m, PairE X wr N L B1 s1 mb1 B2 s2 mb2 (120 + 0) m m ∧ Wel L m) := ⟨_, hp.out.more (by omega), HR4.out.wel.run _⟩
        have HL8 : Hid (L % 8 = 0) := HR4.out.L8
        clear hp HR4
        go_wp2_with fail
        clear hS
        go_loopw [16] (fun i wr => ∃ j : Nat, j ≤ A.length ∧ i = .int .i64 j ∧ Hid (∃ m, PairE X wr N L B1 s1 mb1 B2 s2 mb2 (120 + j) m m ∧ Wel L m)) (fun i _ => A.length - (intOf i).toNat)
        case atStart => exact ⟨0, Nat.zero_le _, rfl, HQ⟩
        case round =>
          clear HQ
          obtain ⟨j, hj, rfl, hp⟩ := hrel
          obtain ⟨m, hp1, hw1⟩ := hp.out
          have HP : Hid (PairE X wr N L B1 s1 mb1 B2 s2 mb2 (120 + j) m m) := hp1
          have HWW : Hid (Wel L m) := hw1
          clear hp1 hw1 hp
          by_cases hlt : j < A.length
          · obtain ⟨g, o, ce, hve, hcell⟩ := HA.out.below' HP.out.bel (by intro e; rw [e] at hlt; simp at hlt)
            injection hve with hvt _ hve2
            subst hvt hve2
            have ca := hcell j hlt
            clear hcell
            have HNN : Hid (120 + j < 100000) := by show _ < _; omega
            generalize A.getD j 0 = av at *
            have HLB : Hid (Calls Tryd.prog 12 #[.pointer (some ⟨s2, 0, none⟩), .int .i64 av] wr fun e w' => e = .returned (.tuple #[.int .i64 (dlV L m.M av), .int .i64 (dlE L av)]) ∧ w' = wr) := HP.out.loadB av
            have HLA : Hid (Calls Tryd.prog 13 #[.pointer (some ⟨s1, 0, none⟩), .int .i64 av] wr fun e w' => e = .returned (.tuple #[.int .i64 (dlV L m.M av), loadE L av]) ∧ w' = wr) := HP.out.loadA av
            have HBR : Hid (∀ w, ErrT w → Calls Tryd.prog 8 #[loadE L av, .int .i64 (dlE L av)] w fun e w' => e = .returned (.bool true) ∧ Below w.heap.size w w') := fun w h => bare_load L av w h
            have HSA : Hid (∀ w v, PairE X w N L B1 s1 mb1 B2 s2 mb2 (120 + j) m m → Calls Tryd.prog 14 #[.pointer (some ⟨s1, 0, none⟩), .int .i64 av, .int .i64 v] w fun e W' => e = .returned (loadE L av) ∧ PairE X W' N L B1 s1 mb1 B2 s2 mb2 (120 + j) (stV L m av v) m) := fun w v h => h.storeA av v
            have HSB : Hid (∀ w v, I64 v → PairE X w N L B1 s1 mb1 B2 s2 mb2 (120 + j) (stV L m av v) m → Calls Tryd.prog 15 #[.pointer (some ⟨s2, 0, none⟩), .int .i64 av, .int .i64 v] w fun e W' => e = .returned (.int .i64 (dlE L av)) ∧ PairE X W' N L B1 s1 mb1 B2 s2 mb2 (120 + j + 1) (stV L m av v) (stV L m av v)) := fun w v hv h => h.storeB av v hv HNN.out
            generalize dlV L m.M av = dv at *
            generalize dlE L av = de at *
            generalize loadE L av = le at *
            go_wp2_with (first
              | (go_at_call 12; refine HLB.out.mono ?_; rintro e wr ⟨rfl, rfl⟩)
              | (go_at_call 13; refine HLA.out.mono ?_; rintro e wr ⟨rfl, rfl⟩)
              | (go_at_call 8; fail))
            refine (HBR.out _ HP.out.err).mono ?_
            rintro e w4 ⟨rfl, hb4⟩
            have HP4 : Hid (PairE X w4 N L B1 s1 mb1 B2 s2 mb2 (120 + j) m m) := HP.out.grown hb4
            clear hb4
            go_wp2_with (first
              | (go_at_call 14; refine (HSA.out _ _ HP4.out).mono ?_; rintro e w5 ⟨rfl, h5⟩; have HP5 : Hid (PairE X w5 _ _ _ _ _ _ _ _ _ _ _) := h5; clear h5)
              | (go_at_call 15; refine (HSB.out _ _ (wrap64_in _) HP5.out).mono ?_; rintro e w6 ⟨rfl, h6⟩; have HP6 : Hid (PairE X w6 _ _ _ _ _ _ _ _ _ _ _) := h6; clear h6)
              | (go_at_call 8; fail))
            refine (HBR.out _ HP6.out.err).mono ?_
            rintro e w7 ⟨rfl, hb7⟩
            have HP7 : Hid (PairE X w7 _ _ _ _ _ _ _ _ _ _ _) := HP6.out.grown hb7
            clear hb7
            go_wp2
            exact ⟨⟨j + 1, by omega, by go_num, ⟨_, HP7.out, stV_wel HWW.out _ _⟩⟩, by simp [intOf]; omega⟩
          · have hje : j = A.length := by omega
            have HRA : Hid (Calls Tryd.prog 17 #[.pointer (some ⟨s1, 0, none⟩), .int .i64 300] wr fun e W' => ∃ v', e = .returned (.agg #[.int .i64 (wayV (runV L 300 m)), .int .i64 (runV L 300 m).code, v']) ∧ ∃ gv1 ov1 gv2 ov2, Pair X W' N L B1 s1 mb1 B2 s2 mb2 (120 + j) (runV L 300 m) m gv1 ov1 gv2 ov2 ∧ W'.ownsRow N 2 1 v' (runV L 300 m).out.length (outL (runV L 300 m).out) ∧ ∀ k, v'.ownBlock = some k → ov2.ownBlock ≠ some k) := HP.out.runA 300 (by omega)
            go_wp2_with (go_at_call 17; fail)
            refine HRA.out.mono ?_
            rintro e w5 ⟨v1, rfl, gv1', ov1', gv2', ov2', hp5, hown, hkk⟩
            have HRB : Hid (Calls Tryd.prog 18 #[.pointer (some ⟨s2, 0, none⟩), .int .i64 300] w5 fun e W' => ∃ v2, e = .returned (.agg #[.int .i64 (wayV (runV L 300 m)), .int .i64 (runV L 300 m).code, v2]) ∧ PairE X W' N L B1 s1 mb1 B2 s2 mb2 (120 + j + 300) (runV L 300 m) (runV L 300 m) ∧ Rd W' v1 (runV L 300 m).out ∧ Rd W' v2 (runV L 300 m).out ∧ (runV L 300 m).out.length ≤ 200) := hp5.runB 300 HL8.out HWW.out (by omega) hown hkk
            clear hp5 hown hkk HRA HP
            go_wp2_with (go_at_call 18; fail)
            refine HRB.out.mono ?_
            rintro e w6 ⟨v2, rfl, hp6, r1, r2, hl6⟩
            have HSE : Hid (Calls Tryd.prog 16 #[.agg #[.int .i64 (wayV (runV L 300 m)), .int .i64 (runV L 300 m).code, v1], .agg #[.int .i64 (wayV (runV L 300 m)), .int .i64 (runV L 300 m).code, v2]] w6 fun e w' => e = .returned (.bool true) ∧ Below w6.heap.size w6 w') := ends_same w6 _ _ v1 v2 _ r1 r2 (by omega)
            have HP6 : Hid (PairE X w6 _ _ _ _ _ _ _ _ _ _ _) := hp6
            clear hp6 r1 r2 hl6 HRB
            go_wp2_with (go_at_call 16; fail)
            refine HSE.out.mono ?_
            rintro e w7 ⟨rfl, hb7⟩
            have HP7 : Hid (PairE X w7 _ _ _ _ _ _ _ _ _ _ _) := HP6.out.grown hb7
            clear hb7
            go_wp2_with (go_at_call 11; fail)
            refine HP7.out.same.mono ?_
            rintro e w8 ⟨rfl, h8⟩
            have HB8 : Hid (Below X.heap.size X w8) := h8.bel
            clear h8
            go_wp2
            go_ret
            exact ⟨rfl, HB8.out⟩
end Go.Proofs.YtaodcpdkobhmfaaDoor
