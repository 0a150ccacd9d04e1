/- The document's RunCode, walked. -/
import Derived.Test.YtjmbjpimabnohaaDoorUT
import Derived.Test.YtjmbjpimabnohaaDoorUO
namespace Go.Proofs.YtjmbjpimabnohaaDoor.Mid
set_option linter.unusedVariables false
set_option linter.unusedSimpArgs false
open Go Go.RowKit

theorem code_all {X : Qx} {L : List Mf} {ql : Option Addr} {cl : Nat} (hE : CdE X L ql cl) (g : Nat) : CallR X L ql cl g := Nat.strongRecOn g (fun g ih => code_step hE ih)
theorem xw_lo {w0 : World} {P : Nat} {w : World} {r : Rr} {d : Nat} {way : Int} (h : Wm w0 P w r d way) {b : Nat} (hb : Xw P r b) : w0.heap.size ≤ b := by
  rcases hb with rfl | hb | hb | hb
  · exact h.lo0
  · exact h.lo b hb
  · exact (h.out.lt b hb).1
  · exact (h.arrs.lt b hb).1
theorem res13 (tmps : Array Value) (w : World) (g : Nat) (a b c : Value) (hp : tmps.getD 6 undef = .pointer (some ⟨g, 0, none⟩)) (hg : w.heap[g]? = some (.cells #[a, b, c] 39)) :
    (results Tryd.f13 tmps).run Tryd.prog w = .ok (.agg #[a, b, c]) w :=
  results_cell_row (p := 6) (ty := 39) Tryd.results13 _ _ g 39 _ (0, 0) _ hp hg Tryd.underlying39 rfl (by kernel_rfl)
/-- The world of a run, as it is made. -/
abbrev rr0 (b : Nat) (iv : Value) (inp : List Int) (fuel : Int) : Rr := ⟨[], .slice (some ⟨b, 0, none⟩) 1 1, iv, .slice none 0 0, ⟨fuel, inp, [], []⟩⟩
theorem wm_new {w1 : World} {iv : Value} {inp : List Int} {fuel : Int} (hin : InW w1 iv inp) (hf : -9223372036854775808 ≤ fuel ∧ fuel ≤ 10000000) :
    Wm w1 (w1.heap.size + 1) ((w1.alloc (.cells #[.slice none 0 0] 23)).alloc (.cells #[.slice (some ⟨w1.heap.size, 0, none⟩) 1 1, iv, .int .i64 fuel, .int .i64 0, .int .i64 0, .int .i64 0, .slice none 0 0] 87)) (rr0 w1.heap.size iv inp fuel) 0 0 := by
  have hb : Below w1.heap.size w1 ((w1.alloc (.cells #[.slice none 0 0] 23)).alloc (.cells #[.slice (some ⟨w1.heap.size, 0, none⟩) 1 1, iv, .int .i64 fuel, .int .i64 0, .int .i64 0, .int .i64 0, .slice none 0 0] 87)) := (al_bel _ _).trans ((al_bel (w1.alloc _) _).mono (by simp))
  refine ⟨by omega, hb.size, fun b h1 => hb.block b h1, ?_, hin, World.ownsRow_nil _ _ _ _, ?_, fun i hi => (by cases hi), rfl, fun i b n hi => (by simp at hi), fun b hb => (by cases hb), List.nodup_nil, hf, by show 0 ≤ 200; omega, by omega⟩
  · have e : (w1.alloc (.cells #[.slice none 0 0] 23)).heap.size = w1.heap.size + 1 := by simp
    rw [← e, heap_alloc_last]
    rfl
  · refine ⟨rfl, .inr ⟨w1.heap.size, 1, #[.slice none 0 0], rfl, Nat.le_refl _, ?_, Nat.le_refl _, by unfold maxLen; omega, rfl, rfl⟩⟩
    rw [row_eq_alloc (by simp)]
    exact heap_alloc_last _ _
theorem cdw_new {X : Qx} {W : World} {iv : Value} {inp : List Int} {fuel : Int} {b : Nat} {F : Mf} (h : Wm X.w0 X.P W (rr0 b iv inp fuel) 0 0) (hI : ∀ x ∈ inp, I64 x) (hf : fuel ≤ 10000000) : CdW X W (rr0 b iv inp fuel) 0 F (List.replicate F.types.length (0, none)) [] none 0 0 := by
  refine ⟨h, World.ownsRow_nil _ _ _ _, fun b hb => (by cases hb), ⟨Nat.zero_le _, by simp, fun i x t hx ht => ?_⟩, fun v hv => ?_, ⟨fun l hl => (by cases hl), hI⟩, ?_⟩
  · have : x = (0, none) := List.eq_of_mem_replicate (List.mem_of_getElem? hx)
    subst this
    exact ⟨by rw [rp_0]; rfl, fun _ => trivial⟩
  · rw [List.eq_of_mem_replicate hv]
    show I64 0
    exact ⟨by omega, by omega⟩
  · show ((0 : Nat) : Int) + fuel ≤ 10000000
    omega
set_option maxRecDepth 100000 in
set_option maxHeartbeats 4000000 in
theorem RunCode_any (w : World) (ql : Option Addr) (cl : Nat) (L : List Mf) (iv : Value) (inp : List Int) (fuel : Int) (g : Nat) (h : RowAt w ql cl L) (hmx : ∃ m, w.cell? ⟨3, 0, none⟩ = some (.int .i64 m)) (hin : InW w iv inp) (hI : ∀ x ∈ inp, I64 x) (hf : -9223372036854775808 ≤ fuel ∧ fuel ≤ 10000000) (hg : fuel.toNat < g) :
    Calls Tryd.prog 13 #[.slice ql L.length cl, iv, .int .i64 fuel] w (RnP (runV g L inp fuel) w) := by
  obtain ⟨qi, ci, rfl, hin'⟩ := id hin
  obtain ⟨ni, hni⟩ : ∃ ni, ni = inp.length := ⟨_, rfl⟩
  rw [← hni] at hin ⊢
  obtain ⟨ll, hll⟩ : ∃ ll, L.length = ll := ⟨_, rfl⟩
  rw [hll]
  have HLl : Hid (L.length = ll) := hll
  generalize hG : RnP (runV g L inp fuel) w = G
  have HG : Hid (RnP (runV g L inp fuel) w = G) := hG
  obtain ⟨W1, hW1⟩ : ∃ W1, W1 = w.alloc (.cells #[.int .i64 0, .int .i64 0, .slice none 0 0] 39) := ⟨_, rfl⟩
  have HB1 : Hid (Below w.heap.size w W1) := by rw [hW1]; exact al_bel2 _ _
  have HK1 : Hid (W1.heap[w.heap.size]? = some (.cells #[.int .i64 0, .int .i64 0, .slice none 0 0] 39) ∧ W1.heap.size = w.heap.size + 1) := ⟨by rw [hW1]; exact heap_alloc_last _ _, by rw [hW1]; simp⟩
  have HRt : Hid (Calls Tryd.prog 9 #[.slice ql ll cl] W1 (LkP (rightV L) W1)) := by
    have hm : ∃ m, W1.cell? ⟨3, 0, none⟩ = some (.int .i64 m) := by
      obtain ⟨m, hm⟩ := hmx
      exact ⟨m, by rw [HB1.out.cell (p := ⟨3, 0, none⟩) (cell_lt hm)]; exact hm⟩
    rw [← hll]
    exact RightCode_any W1 ql cl L (h.below HB1.out) hm
  have HH : Hid (RowAt w ql cl L ∧ InW w (.slice qi ni ci) inp ∧ (∀ x ∈ inp, I64 x) ∧ (-9223372036854775808 ≤ fuel ∧ fuel ≤ 10000000) ∧ fuel.toNat < g) := ⟨h, hin, hI, hf, hg⟩
  clear h hmx hin hin' hI hf hg hni hG hll
  go_enter Tryd.func13, Tryd.ntmps13
  go_wp2_with (go_at_call 9; fail)
  rw [← hW1]
  clear hW1
  refine HRt.out.mono ?_
  rintro e w1 ⟨rfl, hb1⟩
  have hb2 : Below w.heap.size w w1 := HB1.out.trans (hb1.mono HB1.out.size)
  have hk2 : w1.heap[w.heap.size]? = some (.cells #[.int .i64 0, .int .i64 0, .slice none 0 0] 39) := by rw [hb1.block _ (by have := HK1.out.2; omega)]; exact HK1.out.1
  have HK2 : Hid (Below w.heap.size w w1 ∧ w1.heap[w.heap.size]? = some (.cells #[.int .i64 0, .int .i64 0, .slice none 0 0] 39) ∧ w.heap.size < w1.heap.size) := ⟨hb2, hk2, (Array.getElem?_eq_some_iff.1 hk2).1⟩
  clear hb1 hb2 hk2
  cases hrv : rightV L with
  | false =>
    have m0 := cell_at (i := 0) HK2.out.2.1 rfl
    have m1 := cell_at (i := 1) HK2.out.2.1 rfl
    have m2 := cell_at (i := 2) HK2.out.2.1 rfl
    have y0 := row_free HK2.out.2.1 0
    have y1 := row_free HK2.out.2.1 1
    have y2 := row_free HK2.out.2.1 2
    have HRn : Hid (runV g L inp fuel = (9, 0, [])) := by show _ = _; unfold runV; rw [hrv]; rfl
    clear hrv
    go_wp2
    refine bodyPost_ret (res13 _ _ w.heap.size _ _ _ rfl (set3 HK2.out.2.1)) rfl ?_
    rw [← HG.out, HRn.out]
    exact told_end (out := []) HK2.out.1 (World.ownsRow_nil _ _ _ _) (fun k hk => by cases hk)
  | true =>
    have HR : Hid (RvE L) := rv_e hrv
    obtain ⟨Fm, hFm, hpm⟩ := HR.out.mn
    have HRn : Hid (runV g L inp fuel = (match callG (fsL L) g 0 Fm (List.replicate Fm.types.length (0, none)) ⟨fuel, inp, [], []⟩ with | .error (w, out) => (w, 0, out) | .ok (z, s) => (1, z, s.out))) := by show _ = _; unfold runV; rw [if_pos hrv, hFm]; rfl
    obtain ⟨W3, hW3⟩ : ∃ W3, W3 = (w1.alloc (.cells #[.slice none 0 0] 23)).alloc (.cells #[.slice (some ⟨w1.heap.size, 0, none⟩) 1 1, .slice qi ni ci, .int .i64 fuel, .int .i64 0, .int .i64 0, .int .i64 0, .slice none 0 0] 87) := ⟨_, rfl⟩
    have hwm : Wm w1 (w1.heap.size + 1) W3 (rr0 w1.heap.size (.slice qi ni ci) inp fuel) 0 0 := by rw [hW3]; exact wm_new (HH.out.2.1.below HK2.out.1) HH.out.2.2.2.1
    have HCd : Hid (Calls Tryd.prog 33 #[ptr (w1.heap.size + 1), .slice ql ll cl, .string ⟨#[109, 97, 105, 110]⟩, .slice none 0 0] W3 (CdP ⟨w1, w1.heap.size + 1⟩ W3 (rr0 w1.heap.size (.slice qi ni ci) inp fuel) 0 (callG (fsL L) g 0 Fm (List.replicate Fm.types.length (0, none)) ⟨fuel, inp, [], []⟩))) := by
      have := code_all (X := ⟨w1, w1.heap.size + 1⟩) (ql := ql) (cl := cl) ⟨HH.out.1.below HK2.out.1, HR.out⟩ g mainB Fm hFm W3 (rr0 w1.heap.size (.slice qi ni ci) inp fuel) 0 (List.replicate Fm.types.length (0, none)) [] none 0 0 (cdw_new hwm HH.out.2.2.1 HH.out.2.2.2.1.2) (ng_call (fsL L) g 0 Fm (List.replicate Fm.types.length (0, none)) ⟨fuel, inp, [], []⟩ HH.out.2.2.2.2)
      rw [HLl.out] at this
      exact this
    have HW : Hid (Wm w1 (w1.heap.size + 1) W3 (rr0 w1.heap.size (.slice qi ni ci) inp fuel) 0 0 ∧ Below w1.heap.size w1 W3) := ⟨hwm, by rw [hW3]; exact (al_bel _ _).trans ((al_bel (w1.alloc _) _).mono (by simp))⟩
    clear hrv hFm hpm hwm
    go_wp2_with (go_at_call 33; fail)
    rw [← hW3]
    clear hW3
    refine HCd.out.mono ?_
    rintro e w4 ⟨n, rfl, r', way, q1, q2, q3⟩
    have HEd : Hid (Calls Tryd.prog 32 #[ptr (w1.heap.size + 1), .int .i64 n] w4 (fun e w5 => ∃ p9 l9 c9, r'.ov = .slice p9 l9 c9 ∧ e = .returned (.agg #[.int .i64 (if way = 0 then 1 else way), .int .i64 (if way = 0 then n else 0), .slice p9 l9 c9]) ∧ w5.heap[w.heap.size]? = some (.cells #[.int .i64 0, .int .i64 0, .slice none 0 0] 39) ∧ Hid (G (.returned (.agg #[.int .i64 (if way = 0 then 1 else way), .int .i64 (if way = 0 then n else 0), .slice p9 l9 c9])) (((w5.setCell ⟨w.heap.size, 0, none⟩ (.int .i64 (if way = 0 then 1 else way))).setCell ⟨w.heap.size, 1, none⟩ (.int .i64 (if way = 0 then n else 0))).setCell ⟨w.heap.size, 2, none⟩ (.slice p9 l9 c9))))) := by
      refine (end_any ⟨w1, w1.heap.size + 1⟩ w4 r' 0 way n q1).mono ?_
      rintro e w5 ⟨rfl, a1, a2⟩
      obtain ⟨p9, c9, hov⟩ := own_slice q1.out
      have hkeep : ∀ b, b < w1.heap.size → w5.heap[b]? = w1.heap[b]? := fun b hb => by
        rw [a2.blk b (Nat.lt_of_lt_of_le hb q1.le) (fun hx => by have := xw_lo q1 hx; have : w1.heap.size ≤ b := this; omega) (fun e => e)]
        exact q1.kp b hb
      have hb5 : Below w.heap.size w w5 := by
        have h1 := HK2.out.1
        have h2 := HW.out.2
        refine ⟨a2.os.trans (q2.os.trans (h2.os.trans h1.os)), a2.tape.trans (q2.tape.trans (h2.tape.trans h1.tape)), a2.output.trans (q2.output.trans (h2.output.trans h1.output)), Nat.le_trans h1.size (Nat.le_trans h2.size (Nat.le_trans q2.size a2.size)), fun b hb => ?_⟩
        rw [hkeep b (Nat.lt_of_lt_of_le hb h1.size)]
        exact h1.block b hb
      refine ⟨p9, r'.s.out.length, c9, hov, by rw [hov], by rw [hkeep _ HK2.out.2.2]; exact HK2.out.2.1, ?_⟩
      show G _ _
      have hrn : runV g L inp fuel = (if way = 0 then 1 else way, if way = 0 then n else 0, r'.s.out) := by
        rw [HRn.out]
        have e0 : (⟨fuel, inp, [], []⟩ : Sg) = (rr0 w1.heap.size (.slice qi ni ci) inp fuel).s := rfl
        rcases q3 with ⟨z1, z2⟩ | ⟨z1, z2⟩
        · rw [z2, if_pos z1, if_pos z1]
        · rw [z2, if_neg z1, if_neg z1]
      rw [← HG.out, hrn, ← hov]
      have hlo : w.heap.size < w1.heap.size := HK2.out.2.2
      exact told_end (out := r'.s.out) hb5 (own_mono a1 (by show w.heap.size ≤ w1.heap.size; omega)) (fun k hk => by have := (a1.lt k hk).1; have : w1.heap.size ≤ k := this; omega)
    clear q1 q2 q3
    generalize (if way = 0 then 1 else way) = wy at HEd
    generalize (if way = 0 then n else 0) = cy at HEd
    go_wp2_with (go_at_call 32; fail)
    refine HEd.out.mono ?_
    rintro e w5 ⟨p9, l9, c9, -, rfl, hk5, HX⟩
    have m0 := cell_at (i := 0) hk5 rfl
    have m1 := cell_at (i := 1) hk5 rfl
    have m2 := cell_at (i := 2) hk5 rfl
    have y0 := row_free hk5 0
    have y1 := row_free hk5 1
    have y2 := row_free hk5 2
    have HK5 : Hid (w5.heap[w.heap.size]? = some (.cells #[.int .i64 0, .int .i64 0, .slice none 0 0] 39)) := hk5
    clear hk5
    go_wp2
    refine bodyPost_ret (res13 _ _ w.heap.size _ _ _ rfl (set3 HK5.out)) rfl ?_
    exact HX.out
end Go.Proofs.YtjmbjpimabnohaaDoor.Mid
