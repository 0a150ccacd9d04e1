/- GR -/
import Derived.Test.YtjmbjpimabnohaaDoorK36
namespace Go.Proofs.YtjmbjpimabnohaaDoor.Mid
set_option linter.unusedVariables false
set_option linter.unusedSimpArgs false
open Go Go.RowKit
def FeP (w : World) (y : ByteArray) (tl : List Int) (z : Int) (e : Ending) (w' : World) : Prop := ∃ v' l', e = .returned v' ∧ FlM w' w.heap.size v' y tl l' ∧ Below w.heap.size w w' ∧ Lef tl.length z l'
theorem res34 (tmps : Array Value) (w : World) (g : Nat) (a b c d : Value) (hp : tmps.getD 2 undef = .pointer (some ⟨g, 0, none⟩)) (hg : w.heap[g]? = some (.cells #[a, b, c, d] 35)) :
    (results Tryd.f34 tmps).run Tryd.prog w = .ok (.agg #[a, b, c, d]) w :=
  results_cell_row (p := 2) (ty := 35) Tryd.results34 _ _ g 35 _ (0, 0) _ hp hg Tryd.underlying35 rfl (by kernel_rfl)
theorem fe_fin {w wr : World} {y : ByteArray} {tq : Option Addr} {nt tc : Nat} {sq : Option Addr} {ns sc : Nat} {tl : List Int} {l : List Ms} {z : Int} (h : RdI w y tq nt tc sq ns sc tl l wr) (hl : Lef tl.length z l) : FeP w y tl z (.returned (.agg #[.string y, .int .i64 0, .slice tq nt tc, .slice sq ns sc])) ((((wr.setCell ⟨w.heap.size + 1, 0, none⟩ (.string y)).setCell ⟨w.heap.size + 1, 1, none⟩ (.int .i64 0)).setCell ⟨w.heap.size + 1, 2, none⟩ (.slice tq nt tc)).setCell ⟨w.heap.size + 1, 3, none⟩ (.slice sq ns sc)) := by
  have hk : ∀ k, k ≠ w.heap.size + 1 → ((((wr.setCell ⟨w.heap.size + 1, 0, none⟩ (.string y)).setCell ⟨w.heap.size + 1, 1, none⟩ (.int .i64 0)).setCell ⟨w.heap.size + 1, 2, none⟩ (.slice tq nt tc)).setCell ⟨w.heap.size + 1, 3, none⟩ (.slice sq ns sc)).heap[k]? = wr.heap[k]? := fun k hk => by
    rw [heap_setCell_other _ _ _ _ hk, heap_setCell_other _ _ _ _ hk, heap_setCell_other _ _ _ _ hk, heap_setCell_other _ _ _ _ hk]
  obtain ⟨tv, sv, e, h1, h2⟩ := h.fl
  refine ⟨_, l, rfl, ⟨tv, sv, e, own_mono (own_at h1 (fun i hi => hk i (by have := (h1.lt i hi).1; omega))) (by omega), own_mono (own_at h2 (fun i hi => hk i (by have := (h2.lt i hi).1; omega))) (by omega)⟩, ?_, hl⟩
  exact (((h.bel.setCell (p := ⟨w.heap.size + 1, 0, none⟩) (by show w.heap.size ≤ w.heap.size + 1; omega) _).setCell (p := ⟨w.heap.size + 1, 1, none⟩) (by show w.heap.size ≤ w.heap.size + 1; omega) _).setCell (p := ⟨w.heap.size + 1, 2, none⟩) (by show w.heap.size ≤ w.heap.size + 1; omega) _).setCell (p := ⟨w.heap.size + 1, 3, none⟩) (by show w.heap.size ≤ w.heap.size + 1; omega) _
structure FeI (w : World) (y : ByteArray) (tq : Option Addr) (nt tc : Nat) (sq : Option Addr) (ns sc : Nat) (tl : List Int) (l : List Ms) (z : Int) (i : Nat) (wr : World) : Prop where
  rd : RdI w y tq nt tc sq ns sc tl l wr
  len : l.length = ns
  gd : Good nt z l
  rt : ∀ s ∈ l, s.code = 8 → s = rt s.a
  lef : i = 0 ∨ Lef nt z l
set_option maxRecDepth 100000 in
set_option maxHeartbeats 8000000 in
theorem fewer_34 (w : World) (B : Nat) (v : Value) (y : ByteArray) (tl : List Int) (l : List Ms) (z : Int) (h : FlM w B v y tl l) (hff : FfE w) (hg : Good tl.length z l) (hrt : ∀ s ∈ l, s.code = 8 → s = rt s.a) (ht1 : ∀ x ∈ tl, x = 1) (ht : tl.length ≤ 64) : Calls Tryd.prog 34 #[v] w (FeP w y tl z) := by
  obtain ⟨tq, tc, sq, sc, rfl⟩ := h.parts
  obtain ⟨nt, hnt⟩ : ∃ nt, tl.length = nt := ⟨_, rfl⟩
  obtain ⟨ns, hns⟩ : ∃ ns, l.length = ns := ⟨_, rfl⟩
  have hle := hg.st.le
  rw [hns] at hle
  obtain ⟨W2, hW2⟩ : ∃ W2, W2 = (w.alloc (.cells #[.string y, .int .i64 0, .slice tq nt tc, .slice sq ns sc] 35)).alloc fnZ := ⟨_, rfl⟩
  have hb2 : Below w.heap.size w W2 := by rw [hW2]; exact (al_bel _ _).trans ((al_bel (w.alloc _) _).mono (by simp))
  have hz2 : W2.heap.size = w.heap.size + 2 := by rw [hW2]; simp
  have k0 : W2.heap[w.heap.size]? = some (.cells #[.string y, .int .i64 0, .slice tq nt tc, .slice sq ns sc] 35) := by rw [hW2, row_eq_alloc (by simp)]; exact heap_alloc_last _ _
  have k1 : W2.heap[w.heap.size + 1]? = some fnZ := by
    have e : (w.alloc (.cells #[.string y, .int .i64 0, .slice tq nt tc, .slice sq ns sc] 35)).heap.size = w.heap.size + 1 := by simp
    rw [hW2, ← e]; exact heap_alloc_last _ _
  have HR : Hid (tl.length = nt ∧ FfE w ∧ nt ≤ 64 ∧ (∀ x ∈ tl, x = 1)) := ⟨hnt, hff, by rw [← hnt]; exact ht, ht1⟩
  have HOw : Hid (Calls Tryd.prog 49 #[.agg #[.string y, .int .i64 0, .slice tq nt tc, .slice sq ns sc]] W2 (OnP W2 y tl l)) := by
    rw [hnt, hns] at h
    exact Reached_any W2 B _ y tl l (h.below hb2) (hff.below hb2) hg.st (by omega)
  rw [hnt, hns]
  have HW2 : Hid (Below w.heap.size w W2 ∧ W2.heap.size = w.heap.size + 2 ∧ W2.heap[w.heap.size]? = some (.cells #[.string y, .int .i64 0, .slice tq nt tc, .slice sq ns sc] 35) ∧ W2.heap[w.heap.size + 1]? = some fnZ) := ⟨hb2, hz2, k0, k1⟩
  have HGd : Hid (l.length = ns ∧ Good nt z l ∧ ∀ s ∈ l, s.code = 8 → s = rt s.a) := ⟨hns, by rw [← hnt]; exact hg, hrt⟩
  have u0 := cell_at (i := 0) k0 rfl
  have u1 := cell_at (i := 1) k0 rfl
  have u2 := cell_at (i := 2) k0 rfl
  have u3 := cell_at (i := 3) k0 rfl
  rw [hW2] at u0 u1 u2 u3
  generalize hG : FeP w y tl z = G
  have HG : Hid (FeP w y tl z = G) := hG
  clear h hff hb2 hz2 k0 k1 hG hnt hns hg hrt ht1 ht
  go_enter Tryd.func34, Tryd.ntmps34
  go_wp2_with (go_at_call 49; fail)
  rw [← hW2]
  clear hW2 u0 u1 u2 u3
  refine HOw.out.mono ?_
  rintro e w3 ⟨v3, rfl, hf3, hb3⟩
  obtain ⟨tq3, tc3, sq3, sc3, rfl⟩ := hf3.parts
  rw [HR.out.1, HGd.out.1] at hf3 ⊢
  obtain ⟨k0, k1⟩ := boxes (w := w) hb3 HW2.out.2.2.1 HW2.out.2.2.2
  obtain ⟨W4, hW4⟩ : ∃ W4, W4 = (((w3.setCell ⟨w.heap.size, 0, none⟩ (.string y)).setCell ⟨w.heap.size, 1, none⟩ (.int .i64 0)).setCell ⟨w.heap.size, 2, none⟩ (.slice tq3 nt tc3)).setCell ⟨w.heap.size, 3, none⟩ (.slice sq3 ns sc3) := ⟨_, rfl⟩
  have hI4 : RdI w y tq3 nt tc3 sq3 ns sc3 tl l W4 := by rw [hW4]; exact RdI.of (HW2.out.1.trans (hb3.mono HW2.out.1.size)) k0 k1 (by rw [← HW2.out.2.1]; exact hf3)
  have HI4 : Hid (FeI w y tq3 nt tc3 sq3 ns sc3 tl l z 0 W4) := ⟨hI4, HGd.out.1, HGd.out.2.1, HGd.out.2.2, .inl rfl⟩
  have c0 := cell_at (i := 0) k0 rfl
  have c1 := cell_at (i := 1) k0 rfl
  have c2 := cell_at (i := 2) k0 rfl
  have c3 := cell_at (i := 3) k0 rfl
  have f0 := row_free k0 0
  have f1 := row_free k0 1
  have f2 := row_free k0 2
  have f3 := row_free k0 3
  clear hf3 hb3 k0 k1 hI4 HOw
  go_wp2_with fail
  rw [← hW4]
  clear hW4 c0 c1 c2 c3 f0 f1 f2 f3
  go_loopw [6] (fun v wr => ∃ (i : Nat) (tq : Option Addr) (tc : Nat) (sq : Option Addr) (ns sc : Nat) (l : List Ms), i ≤ 12 ∧ v = .int .i64 i ∧ Hid (FeI w y tq nt tc sq ns sc tl l z i wr)) (fun v _ => 12 - (intOf v).toNat)
  case atStart => exact ⟨0, tq3, tc3, sq3, ns, sc3, l, by omega, rfl, HI4⟩
  case round =>
    clear HI4 HGd HW2
    obtain ⟨i, tq5, tc5, sq5, ns5, sc5, l5, hi12, rfl, HI⟩ := hrel
    have a0 := cell_at (i := 0) HI.out.rd.b0 rfl
    have a1 := cell_at (i := 1) HI.out.rd.b0 rfl
    have a2 := cell_at (i := 2) HI.out.rd.b0 rfl
    have a3 := cell_at (i := 3) HI.out.rd.b0 rfl
    by_cases hlt : i < 12
    · have HKn : Hid (Calls Tryd.prog 51 #[.agg #[.string y, .int .i64 0, .slice tq5 nt tc5, .slice sq5 ns5 sc5]] wr (KwP wr y tl z)) := known_51 wr _ _ y tl l5 z HI.out.rd.fl (HR.out.2.1.below HI.out.rd.bel) (by rw [HR.out.1]; exact HI.out.gd) HI.out.rt HR.out.2.2.2 (by rw [HR.out.1]; have := HR.out.2.2.1; omega)
      have hl9 : (i : Int) < 12 := by omega
      go_wp2_with (go_at_call 51; fail)
      clear a0 a1 a2 a3
      refine HKn.out.mono ?_
      rintro e w6 ⟨v6, l6, rfl, hf6, hb6, hk6⟩
      have HI6 : Hid (RdI w y tq5 nt tc5 sq5 ns5 sc5 tl l5 w6) := HI.out.rd.below hb6
      have HD : Hid (Calls Tryd.prog 50 #[v6] w6 (DdP w6 y tl z)) := dead_50 w6 _ v6 y tl l6 z hf6 (HR.out.2.1.below HI6.out.bel) hk6 HR.out.2.2.2 (by rw [HR.out.1]; exact HR.out.2.2.1) (by have := hk6.le; have := HR.out.1; have := HR.out.2.2.1; omega)
      clear hf6 hb6 hk6 HKn
      go_wp2_with (go_at_call 50; fail)
      refine HD.out.mono ?_
      rintro e w7 ⟨v7, l7, rfl, hf7, hb7, hk7⟩
      have HI7 : Hid (RdI w y tq5 nt tc5 sq5 ns5 sc5 tl l5 w7) := HI6.out.below hb7
      have hk7' : Lef nt z l7 := by rw [← HR.out.1]; exact hk7
      have HL7 : Hid (Lef nt z l7) := hk7'
      have HRe : Hid (Calls Tryd.prog 49 #[v7] w7 (OnP w7 y tl l7)) := Reached_any w7 _ v7 y tl l7 hf7 (HR.out.2.1.below HI7.out.bel) (by rw [HR.out.1]; exact (hk7'.good (by have := HR.out.2.2.1; omega)).st) (by rw [HR.out.1]; have := HR.out.2.2.1; omega)
      clear hf7 hb7 hk7 hk7' HD HI6
      go_wp2_with (go_at_call 49; fail)
      refine HRe.out.mono ?_
      rintro e w8 ⟨v8, rfl, hf8, hb8⟩
      obtain ⟨tq8, tc8, sq8, sc8, rfl⟩ := hf8.parts
      obtain ⟨n8, hn8⟩ : ∃ n8, l7.length = n8 := ⟨_, rfl⟩
      rw [HR.out.1, hn8] at hf8 ⊢
      have HI8 : Hid (RdI w y tq5 nt tc5 sq5 ns5 sc5 tl l5 w8) := HI7.out.below hb8
      have k0 := HI8.out.b0
      have k1 := HI8.out.b1
      have hz7 : w.heap.size + 2 ≤ w7.heap.size := by have := (Array.getElem?_eq_some_iff.1 HI7.out.b1).1; omega
      obtain ⟨W9, hW9⟩ : ∃ W9, W9 = (((w8.setCell ⟨w.heap.size, 0, none⟩ (.string y)).setCell ⟨w.heap.size, 1, none⟩ (.int .i64 0)).setCell ⟨w.heap.size, 2, none⟩ (.slice tq8 nt tc8)).setCell ⟨w.heap.size, 3, none⟩ (.slice sq8 n8 sc8) := ⟨_, rfl⟩
      have hI9 : RdI w y tq8 nt tc8 sq8 n8 sc8 tl l7 W9 := by rw [hW9]; exact RdI.of HI8.out.bel k0 k1 (hf8.mono hz7)
      have HI9 : Hid (FeI w y tq8 nt tc8 sq8 n8 sc8 tl l7 z (i + 1) W9) := ⟨hI9, hn8, HL7.out.good (by have := HR.out.2.2.1; omega), HL7.out.rt, .inr HL7.out⟩
      have c0 := cell_at (i := 0) k0 rfl
      have c1 := cell_at (i := 1) k0 rfl
      have c2 := cell_at (i := 2) k0 rfl
      have c3 := cell_at (i := 3) k0 rfl
      have f0 := row_free k0 0
      have f1 := row_free k0 1
      have f2 := row_free k0 2
      have f3 := row_free k0 3
      have a0 := cell_at (i := 0) hI9.b0 rfl
      have a1 := cell_at (i := 1) hI9.b0 rfl
      have a2 := cell_at (i := 2) hI9.b0 rfl
      have a3 := cell_at (i := 3) hI9.b0 rfl
      have HN8 : Hid (n8 ≤ 2) := by show n8 ≤ 2; rw [← hn8]; exact HL7.out.le
      have h82 : n8 ≤ 1000 := by have := HN8.out; omega
      have h52 : ns5 ≤ 1000 := by rw [← HI.out.len]; exact HI.out.gd.st.le
      rw [hW9] at a3
      clear hf8 hb8 k0 k1 hI9 HRe HI7 HI8 hz7 hn8
      clear a0 a1 a2
      by_cases h85 : n8 = ns5
      · have t8 : ((n8 : Int) == (ns5 : Int)) = true := by rw [h85]; simp
        have H85 : Hid (n8 = ns5) := h85
        clear h85
        have d0 := cell_at (i := 0) HI9.out.rd.b0 rfl
        have d1 := cell_at (i := 1) HI9.out.rd.b0 rfl
        have d2 := cell_at (i := 2) HI9.out.rd.b0 rfl
        have z0 := cell_at (i := 0) HI9.out.rd.b1 rfl
        have z1 := cell_at (i := 1) HI9.out.rd.b1 rfl
        have z2 := cell_at (i := 2) HI9.out.rd.b1 rfl
        have z3 := cell_at (i := 3) HI9.out.rd.b1 rfl
        have g0 := row_free HI9.out.rd.b1 0
        have g1 := row_free HI9.out.rd.b1 1
        have g2 := row_free HI9.out.rd.b1 2
        have g3 := row_free HI9.out.rd.b1 3
        rw [hW9] at d0 d1 d2 z0 z1 z2 z3 g0 g1 g2 g3
        go_wp2
        rw [← hW9]
        refine bodyPost_ret (res34 _ _ (w.heap.size + 1) _ _ _ _ rfl (set4 HI9.out.rd.b1)) rfl ?_
        rw [← HG.out]
        refine fe_fin HI9.out.rd ?_
        rw [HR.out.1]
        rcases HI9.out.lef with h | h
        · omega
        · exact h
      · have t8 : ((n8 : Int) == (ns5 : Int)) = false := by simp; omega
        clear h85
        go_wp2
        rw [← hW9]
        exact ⟨⟨i + 1, tq8, tc8, sq8, n8, sc8, l7, by omega, by go_num, HI9⟩, by simp [intOf]; omega⟩
    · have hi : i = 12 := by omega
      subst hi
      have d0 := cell_at (i := 0) HI.out.rd.b0 rfl
      have d1 := cell_at (i := 1) HI.out.rd.b0 rfl
      have d2 := cell_at (i := 2) HI.out.rd.b0 rfl
      have d3 := cell_at (i := 3) HI.out.rd.b0 rfl
      have z0 := cell_at (i := 0) HI.out.rd.b1 rfl
      have z1 := cell_at (i := 1) HI.out.rd.b1 rfl
      have z2 := cell_at (i := 2) HI.out.rd.b1 rfl
      have z3 := cell_at (i := 3) HI.out.rd.b1 rfl
      have g0 := row_free HI.out.rd.b1 0
      have g1 := row_free HI.out.rd.b1 1
      have g2 := row_free HI.out.rd.b1 2
      have g3 := row_free HI.out.rd.b1 3
      go_wp2
      refine bodyPost_ret (res34 _ _ (w.heap.size + 1) _ _ _ _ rfl (set4 HI.out.rd.b1)) rfl ?_
      rw [← HG.out]
      refine fe_fin HI.out.rd ?_
      rw [HR.out.1]
      rcases HI.out.lef with h | h
      · omega
      · exact h
end Go.Proofs.YtjmbjpimabnohaaDoor.Mid
