/- MachinePieces, walked. -/
import Derived.Test.YtbobbmkmfcdeeaaDoorR0
import Derived.Test.YtbobbmkmfcdeeaaDoorR1
import Derived.Test.YtbobbmkmfcdeeaaDoorR2
import Derived.Test.YtbobbmkmfcdeeaaDoorI8
namespace Go.Proofs.YtbobbmkmfcdeeaaDoor
open Go Go.RowKit Go.Sort

theorem own_cap {w : World} {B k : Nat} {v : Value} {xs : List Value} (h : w.ownsRow B 2 1 v k xs) {q : Option Addr} {n c : Nat} (e : v = .slice q n c) : n ≤ c := by
  rcases h.2 with ⟨h1, _⟩ | ⟨g, cap, cur, hv, _, _, h3, _⟩
  · rw [h1] at e; simp at e; omega
  · rw [hv] at e; simp at e; omega

/-- The beginning of a list that is read. -/
theorem Rd.take {w : World} {q : Option Addr} {n c : Nat} {l t : List Int} (h : Rd w (.slice q n c) (l ++ t)) : Rd w (.slice q l.length c) l := by
  obtain ⟨p, c', h1, h2⟩ := h
  simp at h1
  obtain ⟨rfl, rfl, rfl⟩ := h1
  refine ⟨q, c, rfl, fun hl => ?_⟩
  obtain ⟨g, o, h3, h4⟩ := h2 (by simp [hl])
  refine ⟨g, o, h3, fun j hj => ?_⟩
  rw [h4 j (by simp; omega)]
  rw [List.getD_eq_getElem?_getD, List.getD_eq_getElem?_getD, List.getElem?_append_left hj]

theorem fld44 (a b v : Value) (w : World) : (Instr.field 44 (.agg #[a, b, v]) 0).run Tryd.prog w = .ok a w := by kernel_rfl

/-- Ahead of the comparisons. -/
structure Pc (w W : World) (s1 s2 gx gy gz : Nat) (M1 M : MS) (v1 v2 v3 : Value) : Prop where
  a : ∃ B mb gv ov, Mac W B s1 mb 512 M gv ov ∧ w.heap.size ≤ B
  b : ∃ B mb gv ov, Mac W B s2 mb 512 M gv ov
  rx : W.heap[gx]? = some (.cells #[.int .i64 (wayV M1), .int .i64 M1.code, v1] 44)
  ry : W.heap[gy]? = some (.cells #[.int .i64 (wayV M), .int .i64 M.code, v2] 44)
  rz : W.heap[gz]? = some (.cells #[.int .i64 (wayV M), .int .i64 M.code, v3] 44)
  t1 : Rd W v1 M1.out
  t2 : Rd W v2 M.out
  t3 : Rd W v3 M.out
  cap : ∀ q n c, v2 = .slice q n c → n ≤ c
  tb : Tabs T W
  bel : Below w.heap.size w W

theorem Pc.grown {w W W' : World} {s1 s2 gx gy gz : Nat} {M1 M : MS} {v1 v2 v3 : Value} (h : Pc w W s1 s2 gx gy gz M1 M v1 v2 v3) (hb : Below W.heap.size W W') : Pc w W' s1 s2 gx gy gz M1 M v1 v2 v3 := by
  obtain ⟨B, mb, gv, ov, hm, hB⟩ := h.a
  obtain ⟨B', mb', gv', ov', hm'⟩ := h.b
  have lt : ∀ {g : Nat} {o : Obj}, W.heap[g]? = some o → g < W.heap.size := fun {g o} hg => (Array.getElem?_eq_some_iff.mp hg).1
  exact ⟨⟨B, mb, gv, ov, hm.grown hb, hB⟩, ⟨B', mb', gv', ov', hm'.grown hb⟩, (hb.block _ (lt h.rx)).trans h.rx, (hb.block _ (lt h.ry)).trans h.ry, (hb.block _ (lt h.rz)).trans h.rz, h.t1.below hb, h.t2.below hb, h.t3.below hb, h.cap, h.tb.below hb, h.bel.trans (hb.mono h.bel.size)⟩

set_option maxRecDepth 100000 in
set_option maxHeartbeats 1000000 in
theorem step_stays (w : World) (s : Nat) (x : Int) (hw : w.cell? ⟨s, 35, none⟩ = some (.int .i64 x)) (h0 : x ≠ 0) :
    Calls Tryd.prog 9 #[.pointer (some ⟨s, 0, none⟩)] w fun e w' => e = .returned (.tuple #[]) ∧ w' = w := by
  go_enter Tryd.func9, Tryd.ntmps9
  go_wp2_with fail
  refine bodyPost_ret (results_none rfl _ _ _) rfl ?_
  exact ⟨rfl, rfl⟩

set_option maxRecDepth 100000 in
set_option maxHeartbeats 4000000 in
theorem pieces_walk (w : World) (wv iv : Value) (ws G : List Int) (a b : Int) (ht : Tabs T w) (hW : WV w wv ws) (hG : Src w iv G) (hwl : ws.length ≤ 60) (hGl : G.length ≤ 20) (q r : Option Addr) (c d : Nat) (hwv : wv = .slice q ws.length c) (hiv : iv = .slice r G.length d) :
    Calls Tryd.prog 4 #[.slice q ws.length c, .slice r G.length d, .int .i64 a, .int .i64 b] w fun e w' => e = .returned (.bool true) ∧ Below w.heap.size w w' := by
  have HT : Hid (Tabs T w) := ht
  have hz1 : 1 < w.heap.size := (ht 1 (by omega) (by omega)).z1
  have HNEW : Hid (∀ w', Below w.heap.size w w' → Calls Tryd.prog 7 #[.slice q ws.length c, .int .i64 512, .slice r G.length d] w' fun e w'' => ∃ s, e = .returned (.tuple #[.pointer (some ⟨s, 0, none⟩), .nilIface]) ∧ ∃ mb gv, Mac w'' w'.heap.size s mb 512 (newV 512 ws G) gv (.slice none 0 0) ∧ Below w'.heap.size w' w'' ∧ ∀ k, gv.ownBlock = some k → w'.heap.size ≤ k ∧ k < s) := fun w' hb => by
    have := new_any w' wv ws 512 iv G (by omega) (by omega) (by decide) (by omega) (hW.below hb) (hG.below hb) (by omega) (by have := hb.size; omega)
    rw [hwv, hiv] at this
    exact this
  have h1' : ¬ (60 : Int) < (ws.length : Int) := by omega
  have h2' : ¬ (20 : Int) < (G.length : Int) := by omega
  have hP0 : 0 ≤ pickV a 60 := Int.emod_nonneg _ (by omega)
  have hP1 : pickV a 60 < 60 := Int.emod_lt_of_pos _ (by omega)
  have hQ0 : 0 ≤ pickV b 60 := Int.emod_nonneg _ (by omega)
  have hQ1 : pickV b 60 < 60 := Int.emod_lt_of_pos _ (by omega)
  have HPA : Hid (∀ w, Calls Tryd.prog 20 #[.int .i64 a, .int .i64 60] w fun e w' => e = .returned (.int .i64 (pickV a 60)) ∧ w' = w) := fun w => pick_gen a 60 w (by omega) (by omega)
  have HPB : Hid (∀ w, Calls Tryd.prog 20 #[.int .i64 b, .int .i64 60] w fun e w' => e = .returned (.int .i64 (pickV b 60)) ∧ w' = w) := fun w => pick_gen b 60 w (by omega) (by omega)
  obtain ⟨F, hF⟩ := Int.eq_ofNat_of_zero_le hP0
  obtain ⟨F', hF'⟩ := Int.eq_ofNat_of_zero_le hQ0
  rw [hF] at HPA hP1
  rw [hF'] at HPB hQ1
  clear hW hG ht hP0 hQ0 hF hF' hwv hiv
  generalize ws.length = wl at *
  generalize G.length = gl at *
  go_enter Tryd.func4, Tryd.ntmps4
  go_wp2_with (first
    | (go_at_call 19; refine (driven_any _ HT.out).mono ?_; rintro e w1 ⟨rfl, hb⟩; have HB1 : Hid (Below w.heap.size w w1) := hb; clear hb)
    | (go_at_call 7; fail))
  refine (HNEW.out _ HB1.out).mono ?_
  rintro e w2 ⟨s1, rfl, mb1, gv1, hm1, hb2, hg1⟩
  have HM1 : Hid (Mac w2 w1.heap.size s1 mb1 512 (newV 512 ws G) gv1 (.slice none 0 0)) := hm1
  have HB2 : Hid (Below w1.heap.size w1 w2) := hb2
  have hz2 : w.heap.size ≤ w1.heap.size := HB1.out.size
  have hz3 : w1.heap.size ≤ w2.heap.size := hb2.size
  have HB02 : Hid (Below w.heap.size w w2) := HB1.out.trans (hb2.mono hz2)
  clear hm1 hb2 hg1
  go_wp2_with (go_at_call 7; fail)
  refine (HNEW.out _ HB02.out).mono ?_
  rintro e w3 ⟨s2, rfl, mb2, gv2, hm2, hb3, hg2⟩
  have hz4 : w2.heap.size ≤ w3.heap.size := hb3.size
  have HB03 : Hid (Below w.heap.size w w3) := HB02.out.trans (hb3.mono (by omega))
  have H2 : Hid (Two w3 w3.heap.size w1.heap.size s1 mb1 (newV 512 ws G) gv1 (.slice none 0 0) w2.heap.size s2 mb2 (newV 512 ws G) gv2 (.slice none 0 0)) :=
    ⟨HM1.out.grown hb3, hm2, HM1.out.core.s0, HM1.out.core.b0, fun k e => ⟨(hg2 k e).1, by have := (hg2 k e).2; have := hm2.core.s0; omega⟩, fun k e => by simp [Value.ownBlock] at e, fun k e => by simp [Value.ownBlock] at e, hm2.core.s0, hm2.core.b0, Nat.le_refl _, fun k e => by simp [Value.ownBlock] at e⟩
  clear hm2 hb3 hg2 HM1 HB2
  go_wp2_with (go_at_call 20; fail)
  refine (HPA.out _).mono ?_
  rintro e w3 ⟨rfl, rfl⟩
  go_wp2_with (go_at_call 20; fail)
  refine (HPB.out _).mono ?_
  rintro e w3 ⟨rfl, rfl⟩
  go_wp2_with (go_at_call 17; fail)
  have hadd : runV 512 F' (runV 512 F (newV 512 ws G)) = runV 512 (F + F') (newV 512 ws G) := (runV_add 512 F F' _).symm
  have HADD : Hid (runV 512 F' (runV 512 F (newV 512 ws G)) = runV 512 (F + F') (newV 512 ws G)) := hadd
  clear hadd
  have HR0 : Hid ((runV 512 (F + F') (newV 512 ws G)).R 0 = 0) := runV_0 512 _ _ rfl
  have HPF : Hid (∃ t, (runV 512 (F + F') (newV 512 ws G)).out = (runV 512 F (newV 512 ws G)).out ++ t) := by
    show ∃ t, _
    rw [← HADD.out]; exact runV_out 512 F' _
  have HT3 : Hid (Tabs T w3) := HT.out.below HB03.out
  -- the first run
  refine (run_any w3 _ s1 mb1 512 F _ gv1 _ H2.out.a HT3.out (by omega)).mono ?_
  rintro e w4 ⟨v1, gv1', ov1, rfl, r1⟩
  obtain ⟨q1, c1, hv1⟩ := own_form r1.own
  have T4 := Two.run1 H2.out r1
  have K1 := Told.new1 H2.out r1
  have B4 : Below w.heap.size w w4 := HB03.out.trans (r1.off.below HB03.out.size (by
    have b2 := H2.out.a.Bs
    have b3 := H2.out.a.Bm
    rintro i hi (e | e | e)
    · omega
    · omega
    · simp [Value.ownBlock] at e))
  have TB4 : Tabs T w4 := HT.out.below B4
  generalize hM1 : runV 512 F (newV 512 ws G) = M1 at *
  subst hv1
  have bx : Below w4.heap.size w4 (w4.alloc (.cells #[.int .i64 (wayV M1), .int .i64 M1.code, .slice q1 M1.out.length c1] 44)) := (Below.refl _ _).alloc (Nat.le_refl _) _
  have H4 : Hid (Two (w4.alloc (.cells #[.int .i64 (wayV M1), .int .i64 M1.code, .slice q1 M1.out.length c1] 44)) w3.heap.size w1.heap.size s1 mb1 M1 gv1' ov1 w2.heap.size s2 mb2 (newV 512 ws G) gv2 (.slice none 0 0)) := T4.grown bx
  have HK1 : Hid (Told (w4.alloc (.cells #[.int .i64 (wayV M1), .int .i64 M1.code, .slice q1 M1.out.length c1] 44)) w3.heap.size ov1 (.slice none 0 0) (.slice q1 M1.out.length c1) M1.out) := K1.grown bx
  have HSX : Hid (Safe (w4.alloc (.cells #[.int .i64 (wayV M1), .int .i64 M1.code, .slice q1 M1.out.length c1] 44)) w3.heap.size ov1 (.slice none 0 0) w4.heap.size) := Safe.new T4 _
  have HRX : Hid ((w4.alloc (.cells #[.int .i64 (wayV M1), .int .i64 M1.code, .slice q1 M1.out.length c1] 44)).heap[w4.heap.size]? = some (.cells #[.int .i64 (wayV M1), .int .i64 M1.code, .slice q1 M1.out.length c1] 44)) := heap_alloc_last w4 _
  have hz5 : w.heap.size ≤ w4.heap.size := B4.size
  have HB4 : Hid (Below w.heap.size w (w4.alloc (.cells #[.int .i64 (wayV M1), .int .i64 M1.code, .slice q1 M1.out.length c1] 44))) := B4.alloc hz5 _
  have HT4 : Hid (Tabs T (w4.alloc (.cells #[.int .i64 (wayV M1), .int .i64 M1.code, .slice q1 M1.out.length c1] 44))) := TB4.below bx
  clear r1 T4 K1 B4 TB4 bx hM1 H2 HT3
  generalize hx1 : wayV M1 = x1 at *
  generalize hx2 : M1.code = x2 at *
  generalize hx3 : M1.out.length = n1 at *
  have HX1 : Hid (wayV M1 = x1) := hx1
  have HX2 : Hid (M1.code = x2) := hx2
  have HX3 : Hid (M1.out.length = n1) := hx3
  clear hx1 hx2 hx3
  go_wp2_with (go_at_call 17; fail)
  have hgx0 : w.heap.size ≤ w4.heap.size := hz5
  generalize w4.alloc (.cells #[.int .i64 x1, .int .i64 x2, .slice q1 n1 c1] 44) = w5 at *
  generalize w4.heap.size = gx at *
  -- the second run
  have HRUN2 : Hid (Calls Tryd.prog 17 #[.pointer (some ⟨s1, 0, none⟩), .int .i64 (F' : Int)] w5 fun e w' => ∃ v' gv' ov', e = .returned (.agg #[.int .i64 (wayV (runV 512 (F + F') (newV 512 ws G))), .int .i64 (runV 512 (F + F') (newV 512 ws G)).code, v']) ∧ Ran w5 w1.heap.size s1 mb1 512 (runV 512 (F + F') (newV 512 ws G)) ov1 v' w' gv' ov') := by
    have := run_any w5 _ s1 mb1 512 F' M1 gv1' ov1 H4.out.a HT4.out (by omega)
    rw [HADD.out] at this
    exact this
  generalize hM : runV 512 (F + F') (newV 512 ws G) = M at *
  have HMM : Hid (runV 512 (F + F') (newV 512 ws G) = M) := hM
  clear hM HADD
  refine HRUN2.out.mono ?_
  rintro e w6 ⟨v2, gv1'', ov1', rfl, r2⟩
  obtain ⟨q2, c2, hv2⟩ := own_form r2.own
  have T6 := Two.run1 H4.out r2
  have K1 := Told.run1 H4.out r2 HK1.out
  have K2 := Told.new1 H4.out r2
  have SX := Safe.run1 H4.out r2 HSX.out
  have B6 : Below w.heap.size w w6 := HB4.out.trans (r2.off.below HB4.out.size (by
    have b2 := H4.out.a.Bs
    have b3 := H4.out.a.Bm
    rintro i hi (e | e | e)
    · omega
    · omega
    · have := (H4.out.a.ob e).1; omega))
  have TB6 : Tabs T w6 := HT.out.below B6
  have RX6 := SX.2.trans HRX.out
  subst hv2
  generalize hy1 : wayV M = y1 at *
  generalize hy2 : M.code = y2 at *
  generalize hy3 : M.out.length = n2 at *
  have HY1 : Hid (wayV M = y1) := hy1
  have HY2 : Hid (M.code = y2) := hy2
  have HY3 : Hid (M.out.length = n2) := hy3
  clear hy1 hy2 hy3
  have bx : Below w6.heap.size w6 (w6.alloc (.cells #[.int .i64 y1, .int .i64 y2, .slice q2 n2 c2] 44)) := (Below.refl _ _).alloc (Nat.le_refl _) _
  have H6 : Hid (Two (w6.alloc (.cells #[.int .i64 y1, .int .i64 y2, .slice q2 n2 c2] 44)) w3.heap.size w1.heap.size s1 mb1 M gv1'' ov1' w2.heap.size s2 mb2 (newV 512 ws G) gv2 (.slice none 0 0)) := T6.grown bx
  have HK1' : Hid (Told (w6.alloc (.cells #[.int .i64 y1, .int .i64 y2, .slice q2 n2 c2] 44)) w3.heap.size ov1' (.slice none 0 0) (.slice q1 n1 c1) M1.out) := K1.grown bx
  have HK2 : Hid (Told (w6.alloc (.cells #[.int .i64 y1, .int .i64 y2, .slice q2 n2 c2] 44)) w3.heap.size ov1' (.slice none 0 0) (.slice q2 n2 c2) M.out) := K2.grown bx
  have HSX' : Hid (Safe (w6.alloc (.cells #[.int .i64 y1, .int .i64 y2, .slice q2 n2 c2] 44)) w3.heap.size ov1' (.slice none 0 0) gx) := (SX.1.grown bx).1
  have HSY : Hid (Safe (w6.alloc (.cells #[.int .i64 y1, .int .i64 y2, .slice q2 n2 c2] 44)) w3.heap.size ov1' (.slice none 0 0) w6.heap.size) := Safe.new T6 _
  have HRX' : Hid ((w6.alloc (.cells #[.int .i64 y1, .int .i64 y2, .slice q2 n2 c2] 44)).heap[gx]? = some (.cells #[.int .i64 x1, .int .i64 x2, .slice q1 n1 c1] 44)) := (SX.1.grown bx).2.trans RX6
  have HRY : Hid ((w6.alloc (.cells #[.int .i64 y1, .int .i64 y2, .slice q2 n2 c2] 44)).heap[w6.heap.size]? = some (.cells #[.int .i64 y1, .int .i64 y2, .slice q2 n2 c2] 44)) := heap_alloc_last w6 _
  have hz6 : w.heap.size ≤ w6.heap.size := B6.size
  have HB6 : Hid (Below w.heap.size w (w6.alloc (.cells #[.int .i64 y1, .int .i64 y2, .slice q2 n2 c2] 44))) := B6.alloc hz6 _
  have HT6 : Hid (Tabs T (w6.alloc (.cells #[.int .i64 y1, .int .i64 y2, .slice q2 n2 c2] 44))) := TB6.below bx
  clear r2 T6 K1 K2 SX B6 TB6 bx RX6 H4 HK1 HSX HRX HB4 HT4 HRUN2
  go_wp2_with (go_at_call 17; fail)
  generalize w6.alloc (.cells #[.int .i64 y1, .int .i64 y2, .slice q2 n2 c2] 44) = w7 at *
  generalize w6.heap.size = gy at *
  -- the third run
  have HRUN3 : Hid (Calls Tryd.prog 17 #[.pointer (some ⟨s2, 0, none⟩), .int .i64 ((F : Int) + (F' : Int))] w7 fun e w' => ∃ v' gv' ov', e = .returned (.agg #[.int .i64 y1, .int .i64 y2, v']) ∧ Ran w7 w2.heap.size s2 mb2 512 M (.slice none 0 0) v' w' gv' ov') := by
    have := run_any w7 _ s2 mb2 512 (F + F') _ gv2 _ H6.out.b HT6.out (by omega)
    rw [HMM.out, HY1.out, HY2.out, Int.natCast_add] at this
    exact this
  refine HRUN3.out.mono ?_
  rintro e w8 ⟨v3, gv2', ov2, rfl, r3⟩
  obtain ⟨q3, c3, hv3⟩ := own_form r3.own
  have A8 := Two.run2 H6.out r3
  have K1 := Told.run2 H6.out r3 HK1'.out
  have K2 := Told.run2 H6.out r3 HK2.out
  have K3 := Told.new2 H6.out r3
  have SX := Safe.run2 H6.out r3 HSX'.out
  have SY := Safe.run2 H6.out r3 HSY.out
  have B8 : Below w.heap.size w w8 := HB6.out.trans (r3.off.below HB6.out.size (by
    have b2 := H6.out.b.Bs
    have b3 := H6.out.b.Bm
    rintro i hi (e | e | e)
    · omega
    · omega
    · simp [Value.ownBlock] at e))
  have RX8 := SX.2.trans HRX'.out
  have RY8 := SY.2.trans HRY.out
  rw [HY3.out] at hv3
  subst hv3
  have bx : Below w8.heap.size w8 (w8.alloc (.cells #[.int .i64 y1, .int .i64 y2, .slice q3 n2 c3] 44)) := (Below.refl _ _).alloc (Nat.le_refl _) _
  have B9 : Below w.heap.size w (w8.alloc (.cells #[.int .i64 y1, .int .i64 y2, .slice q3 n2 c3] 44)) := B8.alloc B8.size _
  have HPC : Hid (Pc w (w8.alloc (.cells #[.int .i64 y1, .int .i64 y2, .slice q3 n2 c3] 44)) s1 s2 gx gy w8.heap.size M1 M (.slice q1 n1 c1) (.slice q2 n2 c2) (.slice q3 n2 c3)) :=
    ⟨⟨_, _, _, _, A8.grown bx, hz2⟩, ⟨_, _, _, _, r3.mac.grown bx⟩, by rw [HX1.out, HX2.out]; exact (bx.block _ SX.1.hi).trans RX8, by rw [HY1.out, HY2.out]; exact (bx.block _ SY.1.hi).trans RY8, by rw [HY1.out, HY2.out]; exact heap_alloc_last w8 _,
      Rd.of_own (K1.grown bx).own, Rd.of_own (K2.grown bx).own, Rd.of_own (K3.grown bx).own, fun q n c e => own_cap K2.own e, HT.out.below B9, B9⟩
  clear A8 K1 K2 K3 SX SY B8 RX8 RY8 bx B9 r3 H6 HK1' HK2 HSX' HSY HRX' HRY HB6 HT6 HRUN3 HB03 HB02 HB1 HNEW HPA HPB HMM
  go_wp2_with fail
  generalize w8.alloc (.cells #[.int .i64 y1, .int .i64 y2, .slice q3 n2 c3] 44) = W at *
  generalize w8.heap.size = gz at *
  have z0 : W.cell? ⟨gy, 0, none⟩ = some (.int .i64 y1) := by rw [cell_of_row _ _ _ _ _ _ HPC.out.ry, ← HY1.out]; rfl
  have z1 : W.cell? ⟨gy, 1, none⟩ = some (.int .i64 y2) := by rw [cell_of_row _ _ _ _ _ _ HPC.out.ry, ← HY2.out]; rfl
  have z2 : W.cell? ⟨gy, 2, none⟩ = some (.slice q2 n2 c2) := by rw [cell_of_row _ _ _ _ _ _ HPC.out.ry]; rfl
  have z3 : W.cell? ⟨gz, 0, none⟩ = some (.int .i64 y1) := by rw [cell_of_row _ _ _ _ _ _ HPC.out.rz, ← HY1.out]; rfl
  have z4 : W.cell? ⟨gz, 1, none⟩ = some (.int .i64 y2) := by rw [cell_of_row _ _ _ _ _ _ HPC.out.rz, ← HY2.out]; rfl
  have z5 : W.cell? ⟨gz, 2, none⟩ = some (.slice q3 n2 c3) := by rw [cell_of_row _ _ _ _ _ _ HPC.out.rz]; rfl
  have z6 : W.cell? ⟨gx, 2, none⟩ = some (.slice q1 n1 c1) := by rw [cell_of_row _ _ _ _ _ _ HPC.out.rx]; rfl
  have k0 := cell_regrown z0
  have k1 := cell_regrown z1
  have k2 := cell_regrown z2
  have k3 := cell_regrown z3
  have k4 := cell_regrown z4
  have k5 := cell_regrown z5
  have k6 := cell_regrown z6
  have hn12 : n1 ≤ n2 := by
    obtain ⟨t, ht⟩ := HPF.out
    have := congrArg List.length ht
    rw [HY3.out, List.length_append, HX3.out] at this
    omega
  have hc2 : n2 ≤ c2 := HPC.out.cap _ _ _ rfl
  have hle : ¬ (n2 : Int) < (n1 : Int) := by omega
  have hle2 : (n1 : Int) ≤ (c2 : Int) := by omega
  have hl200 : M.out.length ≤ 200 := by obtain ⟨_, _, _, _, hm, _⟩ := HPC.out.a; exact hm.o2
  have CA : Hid (∀ d1 os, Calls Tryd.prog 21 #[.slice q2 n2 c2, .slice q3 n2 c3] (grow (redrawn W d1) os) fun e w'' => e = .returned (.bool true) ∧ ∃ p : Regrown, w'' = grow (redrawn W p.d) p.os) :=
    fun d1 os => Calls.regrown_of (equal_same _ _ _ M.out (HPC.out.t2.below (below_regrown W d1 os)) (HPC.out.t3.below (below_regrown W d1 os)) (by omega))
  have CB : Hid (∀ d1 os, Calls Tryd.prog 21 #[.slice q1 n1 c1, .slice q2 n1 c2] (grow (redrawn W d1) os) fun e w'' => e = .returned (.bool true) ∧ ∃ p : Regrown, w'' = grow (redrawn W p.d) p.os) :=
    fun d1 os => Calls.regrown_of (equal_same _ _ _ M1.out (HPC.out.t1.below (below_regrown W d1 os)) (by
      obtain ⟨t, ht⟩ := HPF.out
      have h2 := HPC.out.t2.below (below_regrown W d1 os)
      rw [ht] at h2
      have := h2.take
      rw [HX3.out] at this
      exact this) (by rw [HX3.out]; have := HY3.out; omega))
  have CM : Hid (∀ d1 os, Calls Tryd.prog 22 #[.pointer (some ⟨s1, 0, none⟩)] (grow (redrawn W d1) os) fun e w'' => e = .returned (.int .i64 M.pc) ∧ ∃ p : Regrown, w'' = grow (redrawn W p.d) p.os) := fun d1 os => by
    obtain ⟨_, _, _, _, hm, _⟩ := HPC.out.a
    exact Calls.regrown_of ((pc_any _ s1 M.pc (cell_regrown hm.core.pc d1 os)).mono fun e w' ⟨h1, h2⟩ => ⟨h1, by rw [h2]; exact Below.refl _ _⟩)
  have CN : Hid (∀ d1 os, Calls Tryd.prog 22 #[.pointer (some ⟨s2, 0, none⟩)] (grow (redrawn W d1) os) fun e w'' => e = .returned (.int .i64 M.pc) ∧ ∃ p : Regrown, w'' = grow (redrawn W p.d) p.os) := fun d1 os => by
    obtain ⟨_, _, _, _, hm⟩ := HPC.out.b
    exact Calls.regrown_of ((pc_any _ s2 M.pc (cell_regrown hm.core.pc d1 os)).mono fun e w' ⟨h1, h2⟩ => ⟨h1, by rw [h2]; exact Below.refl _ _⟩)
  refine wp_region_quiet_below (by kernel_rfl) (by kernel_rfl) ?_
  iterate 17 (first | go_big_quiet_step (fail) | quiet_step (fail))
  first | go_big_quiet_step (exact CA.out _ _) | quiet_step (exact CA.out _ _)
  iterate 4 (first | go_big_quiet_step (fail) | quiet_step (fail))
  first | go_big_quiet_step (exact CM.out _ _) | quiet_step (exact CM.out _ _)
  iterate 1 (first | go_big_quiet_step (fail) | quiet_step (fail))
  first | go_big_quiet_step (exact CN.out _ _) | quiet_step (exact CN.out _ _)
  iterate 20 (first | go_big_quiet_step (fail) | quiet_step (fail))
  first | go_big_quiet_step (exact CB.out _ _) | quiet_step (exact CB.out _ _)
  repeat (first | go_big_quiet_step (fail) | quiet_step (fail))
  refine wpQuiet_nil ?_
  intro _ hw'
  obtain ⟨⟨dq, osq⟩, hw''⟩ := hw'
  rw [hw'']
  have HPD : Hid (Pc w (grow (redrawn W dq) osq) s1 s2 gx gy gz M1 M (.slice q1 n1 c1) (.slice q2 n2 c2) (.slice q3 n2 c3)) := HPC.out.grown (below_regrown W dq osq)
  clear hw'' k0 k1 k2 k3 k4 k5 k6 z0 z1 z2 z3 z4 z5 z6 CA CB CM CN HPC HPF hle hle2
  generalize grow (redrawn W dq) osq = W2 at *
  go_wp2_with fail
  go_loopw [16] (fun i wr => ∃ j : Nat, j ≤ 32 ∧ i = .int .i64 j ∧ Hid (Pc w wr s1 s2 gx gy gz M1 M (.slice q1 n1 c1) (.slice q2 n2 c2) (.slice q3 n2 c3))) (fun i _ => 32 - (intOf i).toNat)
  case atStart => exact ⟨0, by omega, rfl, HPD⟩
  case round =>
    obtain ⟨j, hj, rfl, hp⟩ := hrel
    clear HPD
    by_cases hlt : j < 32
    · have HRM : Hid (Calls Tryd.prog 23 #[.pointer (some ⟨s1, 0, none⟩), .int .i64 (j : Int)] wr fun e w' => e = .returned (.int .i64 (M.R j)) ∧ w' = wr) := by
        obtain ⟨_, _, _, _, hm, _⟩ := hp.out.a
        exact reg_any wr s1 M.R j hlt (hm.core.reg j hlt)
      have HRN : Hid (Calls Tryd.prog 23 #[.pointer (some ⟨s2, 0, none⟩), .int .i64 (j : Int)] wr fun e w' => e = .returned (.int .i64 (M.R j)) ∧ w' = wr) := by
        obtain ⟨_, _, _, _, hm⟩ := hp.out.b
        exact reg_any wr s2 M.R j hlt (hm.core.reg j hlt)
      go_wp2_with (go_at_call 23; fail)
      refine HRM.out.mono ?_
      rintro e wr ⟨rfl, rfl⟩
      go_wp2_with (go_at_call 23; fail)
      refine HRN.out.mono ?_
      rintro e wr ⟨rfl, rfl⟩
      go_wp2_with fail
      exact ⟨⟨j + 1, by omega, by go_num, hp⟩, by simp [intOf]; omega⟩
    · obtain rfl : j = 32 := by omega
      have HPCm : Hid (∀ w', Below wr.heap.size wr w' → Calls Tryd.prog 22 #[.pointer (some ⟨s1, 0, none⟩)] w' fun e w'' => e = .returned (.int .i64 M.pc) ∧ w'' = w') := fun w' hb => by
        obtain ⟨_, _, _, _, hm, _⟩ := (hp.out.grown hb).a
        exact pc_any w' s1 M.pc hm.core.pc
      have HEND : Hid (∀ w', Below wr.heap.size wr w' → Calls Tryd.prog 24 #[.pointer (some ⟨s1, 0, none⟩)] w' fun e w'' => ∃ v', e = .returned (.agg #[.int .i64 M.way, .int .i64 M.code, v']) ∧ Below w'.heap.size w' w'') := fun w' hb => by
        obtain ⟨_, _, _, _, hm, _⟩ := (hp.out.grown hb).a
        exact (end_any w' _ s1 _ 512 M _ _ hm).mono fun e w'' ⟨v', h1, _, h2⟩ => ⟨v', h1, h2⟩
      have HRM : Hid (∀ w', Below wr.heap.size wr w' → Calls Tryd.prog 23 #[.pointer (some ⟨s1, 0, none⟩), .int .i64 0] w' fun e w'' => e = .returned (.int .i64 0) ∧ w'' = w') := fun w' hb => by
        obtain ⟨_, _, _, _, hm, _⟩ := (hp.out.grown hb).a
        have := reg_any w' s1 M.R 0 (by omega) (hm.core.reg 0 (by omega))
        rw [HR0.out] at this
        exact this
      have HST : Hid (∀ w', Below wr.heap.size wr w' → M.way ≠ 0 → Calls Tryd.prog 9 #[.pointer (some ⟨s1, 0, none⟩)] w' fun e w'' => e = .returned (.tuple #[]) ∧ w'' = w') := fun w' hb h0 => by
        obtain ⟨_, _, _, _, hm, _⟩ := (hp.out.grown hb).a
        exact step_stays w' s1 M.way hm.core.way h0
      have HGY : Hid (wr.cell? ⟨gy, 0, none⟩ = some (.int .i64 y1)) := by
        show _ = _
        rw [cell_of_row _ _ _ _ _ _ hp.out.ry, ← HY1.out]; rfl
      have HBW : Hid (Below w.heap.size w wr) := hp.out.bel
      have hzw : w.heap.size ≤ wr.heap.size := hp.out.bel.size
      have HY1' := HY1.out
      have hfld := fld44
      by_cases hw0 : M.way = 0
      · rw [hw0] at HEND
        clear HY1' HST
        go_wp2_with (go_at_call 22; fail)
        refine (HPCm.out _ (Below.refl _ _)).mono ?_
        rintro e wr ⟨rfl, rfl⟩
        go_wp2_with (go_at_call 24; fail)
        refine (HEND.out _ (Below.refl _ _)).mono ?_
        rintro e w9 ⟨v', rfl, hb9⟩
        have HB9 : Hid (Below wr.heap.size wr w9) := hb9
        clear hb9
        go_wp2_with (go_at_call 23; fail)
        refine (HRM.out _ HB9.out).mono ?_
        rintro e w9 ⟨rfl, rfl⟩
        go_wp2_with fail
        go_ret
        exact ⟨rfl, HBW.out.trans (HB9.out.mono hzw)⟩
      · have hy : y1 = M.way := by rw [← HY1', wayV_1 rfl hw0]
        rw [hy] at HGY
        have HST' : Hid (∀ w', Below wr.heap.size wr w' → Calls Tryd.prog 9 #[.pointer (some ⟨s1, 0, none⟩)] w' fun e w'' => e = .returned (.tuple #[]) ∧ w'' = w') := fun w' hb => HST.out w' hb hw0
        clear HY1' HST hy
        generalize M.way = x at *
        go_wp2_with (go_at_call 22; fail)
        refine (HPCm.out _ (Below.refl _ _)).mono ?_
        rintro e wr ⟨rfl, rfl⟩
        go_wp2_with (go_at_call 24; fail)
        refine (HEND.out _ (Below.refl _ _)).mono ?_
        rintro e w9 ⟨v', rfl, hb9⟩
        have HB9 : Hid (Below wr.heap.size wr w9) := hb9
        clear hb9
        go_wp2_with (go_at_call 9; fail)
        refine (HST'.out _ HB9.out).mono ?_
        rintro e w9 ⟨rfl, rfl⟩
        go_wp2_with fail
        have g9 : w9.cell? ⟨gy, 0, none⟩ = some (.int .i64 x) := by rw [HB9.out.cell (block_lt_of_cell HGY.out)]; exact HGY.out
        have HB9d : Hid (Below wr.heap.size wr w9.drew) := HB9.out.drew
        have hl9 : gy < w9.heap.size := block_lt_of_cell g9
        go_region_with (first
          | (go_at_call 22; refine (HPCm.out _ HB9d.out).mono ?_; rintro e w10 ⟨rfl, rfl⟩)
          | (go_at_call 24; refine (HEND.out _ HB9d.out).mono ?_; rintro e w10 ⟨v'', rfl, hb10⟩; have HB10 : Hid (Below _ _ w10) := hb10; have g10 : w10.cell? ⟨gy, 0, none⟩ = some (.int .i64 x) := by (rw [hb10.cell (p := ⟨gy, 0, none⟩) (by simpa using hl9)]; simpa using g9)))
        all_goals
          have HBF : Hid (Below wr.heap.size wr w10) := HB9d.out.trans (HB10.out.mono HB9d.out.size)
          go_wp2_with (go_at_call 23; fail)
          refine (HRM.out _ HBF.out).mono ?_
          rintro e w11 ⟨rfl, rfl⟩
          go_wp2_with fail
          go_ret
          exact ⟨rfl, HBW.out.trans (HBF.out.mono hzw)⟩
end Go.Proofs.YtbobbmkmfcdeeaaDoor
