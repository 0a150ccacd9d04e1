/- FK FL FM -/
import Derived.Test.YtjmbjpimabnohaaDoorK19
namespace Go.Proofs.YtjmbjpimabnohaaDoor.Mid
set_option linter.unusedVariables false
set_option linter.unusedSimpArgs false
open Go Go.RowKit
theorem res49 (tmps : Array Value) (w : World) (g : Nat) (a b c d : Value) (hp : tmps.getD 2 undef = .pointer (some ⟨g, 0, none⟩)) (hg : w.heap[g]? = some (.cells #[a, b, c, d] 35)) :
    (results Tryd.f49 tmps).run Tryd.prog w = .ok (.agg #[a, b, c, d]) w :=
  results_cell_row (p := 2) (ty := 35) Tryd.results49 _ _ g 35 _ (0, 0) _ hp hg Tryd.underlying35 rfl (by kernel_rfl)
theorem FlM.mono {w : World} {B B' : Nat} {v : Value} {y : ByteArray} {tl : List Int} {l : List Ms} (h : FlM w B v y tl l) (hb : B' ≤ B) : FlM w B' v y tl l := by
  obtain ⟨tv, sv, e, h1, h2⟩ := h
  exact ⟨tv, sv, e, own_mono h1 hb, own_mono h2 hb⟩
theorem FlM.parts {w : World} {B : Nat} {v : Value} {y : ByteArray} {tl : List Int} {l : List Ms} (h : FlM w B v y tl l) : ∃ tq tc sq sc, v = .agg #[.string y, .int .i64 0, .slice tq tl.length tc, .slice sq l.length sc] := by
  obtain ⟨tv, sv, rfl, h1, h2⟩ := h
  obtain ⟨tq, tc, rfl⟩ := own_slice h1
  obtain ⟨sq, sc, rfl⟩ := own_slice h2
  exact ⟨tq, tc, sq, sc, rfl⟩
structure RdI (w : World) (y : ByteArray) (tq : Option Addr) (nt tc : Nat) (sq : Option Addr) (ns sc : Nat) (tl : List Int) (l : List Ms) (wr : World) : Prop where
  bel : Below w.heap.size w wr
  b0 : wr.heap[w.heap.size]? = some (.cells #[.string y, .int .i64 0, .slice tq nt tc, .slice sq ns sc] 35)
  b1 : wr.heap[w.heap.size + 1]? = some fnZ
  fl : FlM wr (w.heap.size + 2) (.agg #[.string y, .int .i64 0, .slice tq nt tc, .slice sq ns sc]) y tl l
theorem RdI.below {w : World} {y : ByteArray} {tq : Option Addr} {nt tc : Nat} {sq : Option Addr} {ns sc : Nat} {tl : List Int} {l : List Ms} {wr wr' : World} (h : RdI w y tq nt tc sq ns sc tl l wr) (hb : Below wr.heap.size wr wr') : RdI w y tq nt tc sq ns sc tl l wr' :=
  ⟨h.bel.trans (hb.mono h.bel.size), by rw [hb.block _ (Array.getElem?_eq_some_iff.1 h.b0).1]; exact h.b0, by rw [hb.block _ (Array.getElem?_eq_some_iff.1 h.b1).1]; exact h.b1, h.fl.below hb⟩
theorem RdI.of {w w3 : World} {y : ByteArray} {tq : Option Addr} {nt tc : Nat} {sq : Option Addr} {ns sc : Nat} {tl : List Int} {l : List Ms} {x0 x1 x2 x3 : Value} (hb : Below w.heap.size w w3) (k0 : w3.heap[w.heap.size]? = some (.cells #[x0, x1, x2, x3] 35)) (k1 : w3.heap[w.heap.size + 1]? = some fnZ) (hf : FlM w3 (w.heap.size + 2) (.agg #[.string y, .int .i64 0, .slice tq nt tc, .slice sq ns sc]) y tl l) :
    RdI w y tq nt tc sq ns sc tl l ((((w3.setCell ⟨w.heap.size, 0, none⟩ (.string y)).setCell ⟨w.heap.size, 1, none⟩ (.int .i64 0)).setCell ⟨w.heap.size, 2, none⟩ (.slice tq nt tc)).setCell ⟨w.heap.size, 3, none⟩ (.slice sq ns sc)) := by
  have hk : ∀ k, k ≠ w.heap.size → ((((w3.setCell ⟨w.heap.size, 0, none⟩ (.string y)).setCell ⟨w.heap.size, 1, none⟩ (.int .i64 0)).setCell ⟨w.heap.size, 2, none⟩ (.slice tq nt tc)).setCell ⟨w.heap.size, 3, none⟩ (.slice sq ns sc)).heap[k]? = w3.heap[k]? := fun k hk => by
    rw [heap_setCell_other _ _ _ _ hk, heap_setCell_other _ _ _ _ hk, heap_setCell_other _ _ _ _ hk, heap_setCell_other _ _ _ _ hk]
  obtain ⟨tv, sv, e, h1, h2⟩ := hf
  refine ⟨(((hb.setCell (p := ⟨w.heap.size, 0, none⟩) (Nat.le_refl _) _).setCell (p := ⟨w.heap.size, 1, none⟩) (Nat.le_refl _) _).setCell (p := ⟨w.heap.size, 2, none⟩) (Nat.le_refl _) _).setCell (p := ⟨w.heap.size, 3, none⟩) (Nat.le_refl _) _, set4 k0, by rw [hk _ (by omega)]; exact k1, tv, sv, e, own_at h1 (fun i hi => hk i (by have := (h1.lt i hi).1; omega)), own_at h2 (fun i hi => hk i (by have := (h2.lt i hi).1; omega))⟩
theorem boxes {w W w' : World} {a b : Nat} {x y : Obj} (h : Below W.heap.size W w') (ha : W.heap[a]? = some x) (hb : W.heap[b]? = some y) : w'.heap[a]? = some x ∧ w'.heap[b]? = some y :=
  ⟨by rw [h.block a (Array.getElem?_eq_some_iff.1 ha).1]; exact ha, by rw [h.block b (Array.getElem?_eq_some_iff.1 hb).1]; exact hb⟩
set_option maxRecDepth 100000 in
set_option maxHeartbeats 8000000 in
theorem Reached_any (w : World) (B : Nat) (v : Value) (y : ByteArray) (tl : List Int) (l : List Ms) (h : FlM w B v y tl l) (hff : FfE w) (hs : StrL tl.length l) (ht : tl.length ≤ 1000000) : Calls Tryd.prog 49 #[v] w (OnP w y tl l) := by
  obtain ⟨tq, tc, sq, sc, rfl⟩ := h.parts
  obtain ⟨nt, hnt⟩ : ∃ nt, tl.length = nt := ⟨_, rfl⟩
  obtain ⟨ns, hns⟩ : ∃ ns, l.length = ns := ⟨_, rfl⟩
  have hle := hs.le
  rw [hns] at hle
  obtain ⟨W2, hW2⟩ : ∃ W2, W2 = (w.alloc (.cells #[.string y, .int .i64 0, .slice tq nt tc, .slice sq ns sc] 35)).alloc fnZ := ⟨_, rfl⟩
  have hb2 : Below w.heap.size w W2 := by rw [hW2]; exact (al_bel _ _).trans ((al_bel (w.alloc _) _).mono (by simp))
  have hz2 : W2.heap.size = w.heap.size + 2 := by rw [hW2]; simp
  have k0 : W2.heap[w.heap.size]? = some (.cells #[.string y, .int .i64 0, .slice tq nt tc, .slice sq ns sc] 35) := by rw [hW2, row_eq_alloc (by simp)]; exact heap_alloc_last _ _
  have k1 : W2.heap[w.heap.size + 1]? = some fnZ := by
    have e : (w.alloc (.cells #[.string y, .int .i64 0, .slice tq nt tc, .slice sq ns sc] 35)).heap.size = w.heap.size + 1 := by simp
    rw [hW2, ← e]; exact heap_alloc_last _ _
  rw [hnt, hns] at h ⊢
  have HOw : Hid (Calls Tryd.prog 64 #[.agg #[.string y, .int .i64 0, .slice tq nt tc, .slice sq ns sc]] W2 (OnP W2 y tl l)) := own_any W2 B _ y tl l (h.below hb2) ht (by rw [hns]; omega)
  have HW2 : Hid (Below w.heap.size w W2 ∧ W2.heap.size = w.heap.size + 2 ∧ W2.heap[w.heap.size]? = some (.cells #[.string y, .int .i64 0, .slice tq nt tc, .slice sq ns sc] 35) ∧ W2.heap[w.heap.size + 1]? = some fnZ) := ⟨hb2, hz2, k0, k1⟩
  have HR : Hid (tl.length = nt ∧ l.length = ns ∧ StrL nt l ∧ FfE w) := ⟨hnt, hns, by rw [← hnt]; exact hs, hff⟩
  have hmm : ∀ W : World, (Instr.makeMap 69 none).run Tryd.prog W = .ok (.map (some W.heap.size)) (W.alloc (.map #[] 0)) := fun W => by simp [Instr.makeMap, go_sem]
  have hmf : ∀ (fn : Fn) (first cap : Array Value) (w : World), (Instr.makeFunc fn first cap).run Tryd.prog w = .ok (.func fn first cap) w := fun _ _ _ _ => rfl
  have u0 := cell_at (i := 0) k0 rfl
  have u1 := cell_at (i := 1) k0 rfl
  have u2 := cell_at (i := 2) k0 rfl
  have u3 := cell_at (i := 3) k0 rfl
  rw [hW2] at u0 u1 u2 u3
  generalize hG : OnP w y tl l = G
  have HG : Hid (OnP w y tl l = G) := hG
  clear h hff hs hb2 hz2 k0 k1 hG hnt hns
  go_enter Tryd.func49, Tryd.ntmps49
  go_wp2_with (go_at_call 64; fail)
  rw [← hW2]
  clear hW2 u0 u1 u2 u3
  refine HOw.out.mono ?_
  rintro e w3 ⟨v3, rfl, hf3, hb3⟩
  obtain ⟨tq3, tc3, sq3, sc3, rfl⟩ := hf3.parts
  rw [HR.out.1, HR.out.2.1] at hf3 ⊢
  obtain ⟨k0, k1⟩ := boxes (w := w) hb3 HW2.out.2.2.1 HW2.out.2.2.2
  obtain ⟨W4, hW4⟩ : ∃ W4, W4 = (((w3.setCell ⟨w.heap.size, 0, none⟩ (.string y)).setCell ⟨w.heap.size, 1, none⟩ (.int .i64 0)).setCell ⟨w.heap.size, 2, none⟩ (.slice tq3 nt tc3)).setCell ⟨w.heap.size, 3, none⟩ (.slice sq3 ns sc3) := ⟨_, rfl⟩
  have hI4 : RdI w y tq3 nt tc3 sq3 ns sc3 tl l W4 := by rw [hW4]; exact RdI.of (HW2.out.1.trans (hb3.mono HW2.out.1.size)) k0 k1 (by rw [← HW2.out.2.1]; exact hf3)
  have HI4 : Hid (RdI w y tq3 nt tc3 sq3 ns sc3 tl l W4) := hI4
  have HSo : Hid (Calls Tryd.prog 65 #[.agg #[.string y, .int .i64 0, .slice tq3 nt tc3, .slice sq3 ns sc3]] W4 (BtP W4 true)) := sound_any W4 _ _ y tl l hI4.fl (HR.out.2.2.2.below hI4.bel) (by rw [HR.out.1]; exact HR.out.2.2.1.all) (by rw [HR.out.2.1]; omega)
  have c0 := cell_at (i := 0) k0 rfl
  have c1 := cell_at (i := 1) k0 rfl
  have c2 := cell_at (i := 2) k0 rfl
  have c3 := cell_at (i := 3) k0 rfl
  have f0 := row_free k0 0
  have f1 := row_free k0 1
  have f2 := row_free k0 2
  have f3 := row_free k0 3
  have a0 := cell_at (i := 0) hI4.b0 rfl
  have a1 := cell_at (i := 1) hI4.b0 rfl
  have a2 := cell_at (i := 2) hI4.b0 rfl
  have a3 := cell_at (i := 3) hI4.b0 rfl
  rw [hW4] at a0 a1 a2 a3
  clear hf3 hb3 k0 k1 hI4 HOw
  go_wp2_with (go_at_call 65; fail)
  rw [← hW4]
  clear hW4 c0 c1 c2 c3 f0 f1 f2 f3 a0 a1 a2 a3
  refine HSo.out.mono ?_
  rintro e w5 ⟨rfl, hb5⟩
  have HI5 : Hid (RdI w y tq3 nt tc3 sq3 ns sc3 tl l w5) := HI4.out.below hb5
  have HRc : Hid (Calls Tryd.prog 66 #[.agg #[.string y, .int .i64 0, .slice tq3 nt tc3, .slice sq3 ns sc3]] w5 (RcP w5 ns)) := by
    have := reached_any w5 _ _ y tl l HI5.out.fl (by rw [HR.out.1]; exact HR.out.2.2.1)
    rw [HR.out.2.1] at this
    exact this
  have a0 := cell_at (i := 0) HI5.out.b0 rfl
  have a1 := cell_at (i := 1) HI5.out.b0 rfl
  have a2 := cell_at (i := 2) HI5.out.b0 rfl
  have a3 := cell_at (i := 3) HI5.out.b0 rfl
  clear hb5 HSo HI4
  go_wp2_with (go_at_call 66; fail)
  clear a0 a1 a2 a3
  refine HRc.out.mono ?_
  rintro e w6 ⟨rfl, hs6, hb6⟩
  obtain ⟨W7, hW7⟩ : ∃ W7, W7 = w6.alloc (.cells #[.slice (some ⟨w5.heap.size + 2, 0, none⟩) ns ns] 120) := ⟨_, rfl⟩
  have hb7 : Below w6.heap.size w6 W7 := by rw [hW7]; exact al_bel _ _
  have hI7 : RdI w y tq3 nt tc3 sq3 ns sc3 tl l W7 := (HI5.out.below hb6).below hb7
  have HI7 : Hid (RdI w y tq3 nt tc3 sq3 ns sc3 tl l W7) := hI7
  have e4 : W7.heap[w6.heap.size]? = some (.cells #[.slice (some ⟨w5.heap.size + 2, 0, none⟩) ns ns] 120) := by rw [hW7]; exact heap_alloc_last _ _
  have e3 : W7.heap[w5.heap.size + 2]? = some (.cells (List.replicate ns (Value.bool true)).toArray 4) := by rw [hb7.block _ (Array.getElem?_eq_some_iff.1 hs6).1]; exact hs6
  have HWo : Hid (Calls Tryd.prog 68 #[.agg #[.string y, .int .i64 0, .slice tq3 nt tc3, .slice sq3 ns sc3], .func (.func 69) #[] #[ptr w6.heap.size]] W7 (WkP W7 (.agg #[.string y, .int .i64 0, .slice tq3 nt tc3, .slice sq3 ns sc3]))) := by
    refine without_69 W7 _ _ y tl l w6.heap.size hI7.fl HR.out.2.2.1.pos HR.out.2.2.1.le (fun W i hb hi => ?_)
    rw [HR.out.2.1] at hi
    have g4 : W.heap[w6.heap.size]? = some (.cells #[.slice (some ⟨w5.heap.size + 2, 0, none⟩) ns ns] 120) := by rw [hb.block _ (Array.getElem?_eq_some_iff.1 e4).1]; exact e4
    have g3 : W.heap[w5.heap.size + 2]? = some (.cells (List.replicate ns (Value.bool true)).toArray 4) := by rw [hb.block _ (Array.getElem?_eq_some_iff.1 e3).1]; exact e3
    exact seen_69 W _ _ ns i (cell_at (i := 0) g4 rfl) (cell_at g3 (by simp [hi])) hi hle
  have a0 := cell_at (i := 0) hI7.b0 rfl
  have a1 := cell_at (i := 1) hI7.b0 rfl
  have a2 := cell_at (i := 2) hI7.b0 rfl
  have a3 := cell_at (i := 3) hI7.b0 rfl
  rw [hW7] at a0 a1 a2 a3
  clear hb6 hs6 hb7 hI7 e3 e4 HI5 HRc
  go_wp2_with (go_at_call 68; fail)
  rw [← hW7]
  clear hW7 a0 a1 a2 a3
  refine HWo.out.mono ?_
  rintro e w8 ⟨rfl, hb8⟩
  have HI8 : Hid (RdI w y tq3 nt tc3 sq3 ns sc3 tl l w8) := HI7.out.below hb8
  have HJo : Hid (Calls Tryd.prog 67 #[.agg #[.string y, .int .i64 0, .slice tq3 nt tc3, .slice sq3 ns sc3]] w8 (WkP w8 (.agg #[.string y, .int .i64 0, .slice tq3 nt tc3, .slice sq3 ns sc3]))) := joined_any w8 _ _ y tl l HI8.out.fl (by rw [HR.out.1]; exact HR.out.2.2.1)
  clear hb8 HWo HI7
  go_wp2_with (go_at_call 67; fail)
  refine HJo.out.mono ?_
  rintro e w9 ⟨rfl, hb9⟩
  have hI9 := HI8.out.below hb9
  obtain ⟨WA, hWA⟩ : ∃ WA, WA = (((w9.setCell ⟨w.heap.size, 0, none⟩ (.string y)).setCell ⟨w.heap.size, 1, none⟩ (.int .i64 0)).setCell ⟨w.heap.size, 2, none⟩ (.slice tq3 nt tc3)).setCell ⟨w.heap.size, 3, none⟩ (.slice sq3 ns sc3) := ⟨_, rfl⟩
  have hIA : RdI w y tq3 nt tc3 sq3 ns sc3 tl l WA := by rw [hWA]; exact RdI.of hI9.bel hI9.b0 hI9.b1 hI9.fl
  obtain ⟨WC, hWC⟩ : ∃ WC, WC = (WA.alloc (.map #[] 0)).alloc (.cells #[.map (some w9.heap.size)] 69) := ⟨_, rfl⟩
  have HIC : Hid (RdI w y tq3 nt tc3 sq3 ns sc3 tl l WC) := by rw [hWC]; exact (hIA.below (al_bel _ _)).below (al_bel _ _)
  have c0 := cell_at (i := 0) hI9.b0 rfl
  have c1 := cell_at (i := 1) hI9.b0 rfl
  have c2 := cell_at (i := 2) hI9.b0 rfl
  have c3 := cell_at (i := 3) hI9.b0 rfl
  have f0 := row_free hI9.b0 0
  have f1 := row_free hI9.b0 1
  have f2 := row_free hI9.b0 2
  have f3 := row_free hI9.b0 3
  have d3 := cell_at (i := 3) HIC.out.b0 rfl
  rw [hWC, hWA] at d3
  have HSt : Hid (∀ (W : World) (i : Nat) (s : Ms), Below WC.heap.size WC W → l[i]? = some s → ∃ g, sq3 = some ⟨g, 0, none⟩ ∧ W.cell? ⟨g, i * 10, none⟩ = some (.int .i64 s.code)) := fun W i s hb hi => by
    obtain ⟨tv, sv, e, h1, h2⟩ := (HIC.out.below hb).fl
    injection e with e
    have e' : sv = .slice sq3 ns sc3 := by
      have := congrArg (fun a : Array Value => a[3]?) e
      simpa using this.symm
    subst e'
    rw [HR.out.2.1] at h2
    obtain ⟨g, e, hc⟩ := row_step h2 hi
    have h0 := hc 0 (by omega)
    rw [Nat.add_zero] at h0
    exact ⟨g, e, h0⟩
  clear hI9 hIA hb9 HJo HI8
  go_wp2_with fail
  rw [← hWA, ← hWC]
  clear hWA hWC c0 c1 c2 c3 f0 f1 f2 f3 d3
  go_loopw [23] (fun v wr => ∃ i : Nat, i ≤ ns ∧ v = .int .i64 i ∧ Hid (wr = WC)) (fun v _ => ns - (intOf v).toNat)
  case atStart => exact ⟨0, Nat.zero_le _, rfl, rfl⟩
  case round =>
    obtain ⟨i, hin, rfl, HWr⟩ := hrel
    obtain rfl := HWr.out
    clear HWr
    have x3 := cell_at (i := 3) HIC.out.b0 rfl
    by_cases hlt : i < ns
    · obtain ⟨s, hsi⟩ : ∃ s, l[i]? = some s := ⟨l[i]'(by have := HR.out.2.1; omega), List.getElem?_eq_getElem _⟩
      obtain ⟨g, rfl, z0⟩ := HSt.out wr i s (Below.refl _ _) hsi
      have hc := (HR.out.2.2.1.all s (List.mem_of_getElem? hsi)).code
      have HJ : Hid (Calls Tryd.prog 70 #[.pointer (some ⟨g, i * 10, none⟩)] wr (fun e w' => e = .returned (.bool false) ∧ w' = wr)) := jumps_any wr g (i * 10) s.code z0 (by rcases hc with h | h | h | h <;> rw [h] <;> decide) (by rcases hc with h | h | h | h <;> rw [h] <;> decide)
      have hl9 : (i : Int) < (ns : Int) := by omega
      clear hsi hc z0
      go_wp2_with (go_at_call 70; fail)
      refine HJ.out.mono ?_
      rintro e w' ⟨rfl, rfl⟩
      go_wp2
      exact ⟨⟨i + 1, by omega, by go_num, by trivial⟩, by simp [intOf]; omega⟩
    · have x0 := cell_at (i := 0) HIC.out.b0 rfl
      have x1 := cell_at (i := 1) HIC.out.b0 rfl
      have x2 := cell_at (i := 2) HIC.out.b0 rfl
      have HWo : Hid (Calls Tryd.prog 68 #[.agg #[.string y, .int .i64 0, .slice tq3 nt tc3, .slice sq3 ns sc3], .func (.func 71) #[] #[ptr w.heap.size, ptr (w9.heap.size + 1)]] wr (WkP wr (.agg #[.string y, .int .i64 0, .slice tq3 nt tc3, .slice sq3 ns sc3]))) := by
        refine without_71 wr _ _ y tl l w.heap.size (w9.heap.size + 1) HIC.out.fl HR.out.2.2.1.pos HR.out.2.2.1.le (fun W i hb hi => ?_)
        obtain ⟨s, hsi⟩ : ∃ s, l[i]? = some s := ⟨l[i], List.getElem?_eq_getElem hi⟩
        obtain ⟨g, e, z0⟩ := HSt.out W i s hb hsi
        have hc := (HR.out.2.2.1.all s (List.mem_of_getElem? hsi)).code
        have hx := cell_at (i := 3) (HIC.out.below hb).b0 rfl
        rw [HR.out.2.1] at hi
        exact asked_71 W _ _ g ns sc3 i s.code (by rw [← e]; exact hx) z0 (by rcases hc with h | h | h | h <;> rw [h] <;> decide) hi hle
      go_wp2_with (go_at_call 68; fail)
      refine HWo.out.mono ?_
      rintro e wB ⟨rfl, hbB⟩
      have HIB : Hid (RdI w y tq3 nt tc3 sq3 ns sc3 tl l wB) := HIC.out.below hbB
      have z0 := cell_at (i := 0) HIB.out.b1 rfl
      have z1 := cell_at (i := 1) HIB.out.b1 rfl
      have z2 := cell_at (i := 2) HIB.out.b1 rfl
      have z3 := cell_at (i := 3) HIB.out.b1 rfl
      have g0 := row_free HIB.out.b1 0
      have g1 := row_free HIB.out.b1 1
      have g2 := row_free HIB.out.b1 2
      have g3 := row_free HIB.out.b1 3
      clear hbB
      go_wp2
      refine bodyPost_ret (res49 _ _ (w.heap.size + 1) _ _ _ _ rfl (set4 HIB.out.b1)) rfl ?_
      rw [← HG.out]
      obtain ⟨tv, sv, e, h1, h2⟩ := HIB.out.fl
      have hk : ∀ k, k ≠ w.heap.size + 1 → ((((wB.setCell ⟨w.heap.size + 1, 0, none⟩ (.string y)).setCell ⟨w.heap.size + 1, 1, none⟩ (.int .i64 0)).setCell ⟨w.heap.size + 1, 2, none⟩ (.slice tq3 nt tc3)).setCell ⟨w.heap.size + 1, 3, none⟩ (.slice sq3 ns sc3)).heap[k]? = wB.heap[k]? := fun k hk => by
        rw [heap_setCell_other _ _ _ _ hk, heap_setCell_other _ _ _ _ hk, heap_setCell_other _ _ _ _ hk, heap_setCell_other _ _ _ _ hk]
      refine ⟨_, rfl, ⟨tv, sv, e, own_mono (own_at h1 (fun i hi => hk i (by have := (h1.lt i hi).1; omega))) (by omega), own_mono (own_at h2 (fun i hi => hk i (by have := (h2.lt i hi).1; omega))) (by omega)⟩, ?_⟩
      exact (((HIB.out.bel.setCell (p := ⟨w.heap.size + 1, 0, none⟩) (by show w.heap.size ≤ w.heap.size + 1; omega) _).setCell (p := ⟨w.heap.size + 1, 1, none⟩) (by show w.heap.size ≤ w.heap.size + 1; omega) _).setCell (p := ⟨w.heap.size + 1, 2, none⟩) (by show w.heap.size ≤ w.heap.size + 1; omega) _).setCell (p := ⟨w.heap.size + 1, 3, none⟩) (by show w.heap.size ≤ w.heap.size + 1; omega) _
end Go.Proofs.YtjmbjpimabnohaaDoor.Mid
namespace Go.Proofs.YtjmbjpimabnohaaDoor.Mid
set_option linter.unusedVariables false
set_option linter.unusedSimpArgs false
open Go Go.RowKit Go.Maps Go.ChangeMaps
theorem Mp.entry {k : TypeId} {w : World} {b n : Nat} {f : Lit → Option Value} {t e : TypeId} (h : Mp k w b f n) (K : Maps.Keyed Tryd.prog k) (ht : Tryd.prog.underlying t = some (.map k e)) (hn : n < 100000000) {z : Value} (hz : ∀ W : World, (zeroValue e).run Tryd.prog W = .ok z W) {key : Value} {kl : Lit} (hkey : keyOf Tryd.prog k key = some kl) (hkl : WideAt.IsKeyLit kl) (hf : f kl = none) :
    ∃ (es : Array MapEntry) (clock : Nat), w.heap[b]? = some (.map es clock) ∧ (Instr.mapEntry t (.map (some b)) key).run Tryd.prog w = .ok (.tuple #[z, goInt clock]) (setBlock w b (.map (es.push ⟨key, z, clock⟩) (clock + 1))) ∧
      (∀ W v, W.heap[b]? = some (.map (es.push ⟨key, z, clock⟩) (clock + 1)) → (Instr.entryStore t (.map (some b)) (goInt clock) v).run Tryd.prog W = .ok () (setBlock W b (.map (es.push ⟨key, v, clock⟩) (clock + 1)))) ∧
      (∀ (W : World) (v : Value) (g : Lit → Option Value), W.heap[b]? = some (.map (es.push ⟨key, v, clock⟩) (clock + 1)) → g kl = some v → (∀ y, y ≠ kl → g y = f y) → Mp k W b g (n + 1)) := by
  have hl2 := h.look2 K ht (hz w) hkey
  rw [hf] at hl2
  obtain ⟨D, hown, _, _⟩ := id h
  obtain ⟨es, clock, hb, F, hs, _⟩ := hown
  rcases K.find w hkey es.toList F.keys with ⟨h1, h2⟩ | ⟨j, e0, h1, h2, h3⟩
  · refine ⟨es, clock, hb, ?_, fun W v hW => ?_, fun W v g hW hg hgo => ?_⟩
    · simp [Instr.mapEntry, run_underlying ht, MapKept.run_getObj_map hb, K.check w false hkey, h1, hz, MapKept.run_setObj_map _ hb, Result.andThen, setBlock]
    · have hno : es.findIdx? (fun e => (e.born : Int) == (clock : Int)) = none := by
        rw [Array.findIdx?_eq_none_iff]
        intro x hx
        have := F.stamped.1 x (by simpa using hx)
        simp
        omega
      have hfi : (es.push ⟨key, z, clock⟩).findIdx? (fun e => (e.born : Int) == (clock : Int)) = some es.size := by
        rw [Array.findIdx?_push, hno]
        simp
      have hmo : (es.push ⟨key, z, clock⟩).modify es.size (fun e => { e with val := v }) = es.push ⟨key, v, clock⟩ := by
        apply Array.ext
        · simp
        · intro i h1 h2
          rw [Array.getElem_modify]
          by_cases hi : es.size = i
          · subst hi
            simp
          · have hi2 : i < es.size := by simp at h2; omega
            simp [hi, Array.getElem_push_lt hi2]
      simp [Instr.entryStore, MapKept.run_getObj_map hW, goInt, asInt, asIntOf, hfi, hmo, MapKept.run_setObj_map _ hW, Result.andThen, setBlock]
    · obtain ⟨w', hrun, hm, _⟩ := h.put K ht hn hkey hkl v hg hgo
      have e1 : (Instr.mapUpdate t (.map (some b)) key v).run Tryd.prog w = .ok () (setBlock w b (.map (es.push ⟨key, v, clock⟩) (clock + 1))) := by
        simp [Instr.mapUpdate, run_underlying ht, MapKept.run_getObj_map hb, K.check w false hkey, h1, MapKept.run_setObj_map _ hb, Result.andThen, setBlock]
      rw [hrun] at e1
      injection e1 with _ e1
      subst e1
      rw [hf] at hm
      refine hm.kept ?_
      rw [hW, heap_setBlock_same hb]
  · exfalso
    have e2 : (Instr.lookup t (.map (some b)) key true).run Tryd.prog w = .ok (.tuple #[e0.val, .bool true]) w := by simp [Instr.lookup, run_underlying ht, MapKept.run_getObj_map hb, K.check w _ hkey, h1, Result.andThen]
    rw [e2] at hl2
    injection hl2 with hl2
    injection hl2 with hl2
    have := congrArg (fun a : Array Value => a[1]?) hl2
    simp at this
end Go.Proofs.YtjmbjpimabnohaaDoor.Mid
namespace Go.Proofs.YtjmbjpimabnohaaDoor.Mid
set_option linter.unusedVariables false
set_option linter.unusedSimpArgs false
open Go Go.RowKit
structure Fs where
  hold : Int → Option Int
  home : Int → Option Int
  num : Int → Option Int
  val : Int → Option Int
  cnt : Nat
  nh : Nat
  nm : Nat
  nn : Nat
  nv : Nat
def iF (g : Int → Option Int) : Lit → Option Value
  | .int .i64 x => (g x).map fun y => .int .i64 y
  | _ => none
structure Fx where
  y : ByteArray
  tv : Value
  sv : Value
  kb : Nat
  wb : Nat
  hb : Nat
  mb : Nat
  nb : Nat
  vb : Nat
  lb : Nat
abbrev Fx.Z (X : Fx) : List Nat := [X.kb, X.hb, X.mb, X.nb, X.vb]
structure FcM (w : World) (X : Fx) (S : Fs) : Prop where
  blk : w.heap[X.kb]? = some (.cells #[.string X.y, .int .i64 0, X.tv, X.sv, .map (some X.wb), .bool true, .map (some X.hb), .map (some X.mb), .map (some X.nb), .map (some X.vb), .map (some X.lb), .int .i64 (S.cnt : Int)] 137)
  holds : Mp 3 w X.hb (iF S.hold) S.nh
  homes : Mp 3 w X.mb (iF S.home) S.nm
  nums : Mp 3 w X.nb (iF S.num) S.nn
  vals : Mp 2 w X.vb (iF S.val) S.nv
  nd : X.Z.Nodup
  few : S.cnt ≤ 100000 ∧ S.nh ≤ 100000 ∧ S.nm ≤ 100000 ∧ S.nn ≤ 100000 ∧ S.nv ≤ 100000
structure Ko (Z : List Nat) (w w' : World) : Prop where
  os : w'.os = w.os
  tape : w'.tape = w.tape
  output : w'.output = w.output
  size : w.heap.size ≤ w'.heap.size
  blk : ∀ b, b < w.heap.size → b ∉ Z → w'.heap[b]? = w.heap[b]?
theorem Ko.refl (Z : List Nat) (w : World) : Ko Z w w := ⟨rfl, rfl, rfl, Nat.le_refl _, fun _ _ _ => rfl⟩
theorem Ko.trans {Z : List Nat} {a b c : World} (h : Ko Z a b) (g : Ko Z b c) : Ko Z a c := ⟨g.os.trans h.os, g.tape.trans h.tape, g.output.trans h.output, Nat.le_trans h.size g.size, fun k hk hz => by rw [g.blk k (Nat.lt_of_lt_of_le hk h.size) hz]; exact h.blk k hk hz⟩
def Fs.more (S : Fs) : Fs := { S with cnt := S.cnt + 1 }
theorem Fx.apart {X : Fx} (h : X.Z.Nodup) : X.kb ≠ X.hb ∧ X.kb ≠ X.mb ∧ X.kb ≠ X.nb ∧ X.kb ≠ X.vb ∧ X.hb ≠ X.mb ∧ X.hb ≠ X.nb ∧ X.hb ≠ X.vb ∧ X.mb ≠ X.nb ∧ X.mb ≠ X.vb ∧ X.nb ≠ X.vb := by
  simp only [Fx.Z, List.nodup_cons, List.mem_cons, List.not_mem_nil, or_false, not_or] at h
  obtain ⟨⟨a, b, c, d⟩, ⟨e, f, g⟩, ⟨i, j⟩, k, _⟩ := h
  exact ⟨a, b, c, d, e, f, g, i, j, k⟩
theorem FcM.fresh {w : World} {X : Fx} {S : Fs} (h : FcM w X S) (hc : S.cnt < 100000) : FcM (w.setCell ⟨X.kb, 11, none⟩ (.int .i64 ((S.cnt : Int) + 1))) X S.more ∧ Ko X.Z w (w.setCell ⟨X.kb, 11, none⟩ (.int .i64 ((S.cnt : Int) + 1))) := by
  have ho : ∀ b, b ≠ X.kb → (w.setCell ⟨X.kb, 11, none⟩ (.int .i64 ((S.cnt : Int) + 1))).heap[b]? = w.heap[b]? := fun b hb => heap_setCell_other _ _ _ _ hb
  obtain ⟨a1, a2, a3, a4, _⟩ := Fx.apart h.nd
  refine ⟨⟨?_, h.holds.kept (ho _ a1.symm), h.homes.kept (ho _ a2.symm), h.nums.kept (ho _ a3.symm), h.vals.kept (ho _ a4.symm), h.nd, ?_⟩, ⟨rfl, rfl, rfl, by simp, fun b hb hz => ho b (fun e => hz (by rw [e]; simp [Fx.Z]))⟩⟩
  · rw [heap_setCell_same _ _ _ _ _ _ h.blk]
    rfl
  · have := h.few
    exact ⟨by show S.cnt + 1 ≤ 100000; omega, this.2⟩
set_option maxRecDepth 100000 in
set_option maxHeartbeats 1000000 in
theorem fresh_105 (w : World) (X : Fx) (S : Fs) (h : FcM w X S) (hc : S.cnt < 100000) : Calls Tryd.prog 105 #[ptr X.kb] w (fun e w' => e = .returned (.int .i64 ((S.cnt : Int) + 1)) ∧ FcM w' X S.more ∧ Ko X.Z w w') := by
  obtain ⟨h1, h2⟩ := h.fresh hc
  have c1 : w.cell? ⟨X.kb, 11, none⟩ = some (.int .i64 (S.cnt : Int)) := cell_at (i := 11) h.blk rfl
  have f1 := row_free h.blk 11
  have HX : Hid ((fun e w' => e = Ending.returned (.int .i64 ((S.cnt : Int) + 1)) ∧ FcM w' X S.more ∧ Ko X.Z w w') (.returned (.int .i64 ((S.cnt : Int) + 1))) (w.setCell ⟨X.kb, 11, none⟩ (.int .i64 ((S.cnt : Int) + 1)))) := ⟨rfl, h1, h2⟩
  generalize (fun e w' => e = Ending.returned (.int .i64 ((S.cnt : Int) + 1)) ∧ FcM w' X S.more ∧ Ko X.Z w w') = G at HX ⊢
  clear h h1 h2
  go_enter Tryd.func105, Tryd.ntmps105
  go_wp2
  exact HX.out
end Go.Proofs.YtjmbjpimabnohaaDoor.Mid
