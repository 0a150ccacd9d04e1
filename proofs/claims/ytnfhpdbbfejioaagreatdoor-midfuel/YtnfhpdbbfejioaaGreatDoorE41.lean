/- PI -/
import Derived.Test.YtnfhpdbbfejioaaGreatDoorE40
namespace Go.Proofs.YtnfhpdbbfejioaaGreatDoor.Mid
set_option linter.unusedVariables false
set_option linter.unusedSimpArgs false
set_option maxRecDepth 100000
set_option maxHeartbeats 16000000
open Go Go.RowKit
def RwC (W : World) (q : Option Addr) (n c : Nat) (L : List Mf) : Prop := L.length = n ∧ n ≤ c ∧ n ≤ 1000000 ∧ (L = [] ∨ ∃ g p, q = some ⟨g, p, none⟩ ∧ ∀ j F, L[j]? = some F → FnAt W g (p + j * 4) F)
theorem RwC.code {W : World} {q : Option Addr} {n c : Nat} {L : List Mf} (h : RwC W q n c L) {W' : World} (hb : Below W.heap.size W W') {cb : Nat} (hc : W'.cell? ⟨cb, 0, none⟩ = some (.slice q n c)) : CodeAt W' cb q c L := by
  obtain ⟨h1, h2, h3, h4⟩ := h
  refine ⟨by rw [h1]; exact hc, ⟨by omega, by omega⟩, ?_⟩
  rcases h4 with h4 | ⟨g, p, e, h4⟩
  · exact .inl h4
  · exact .inr ⟨g, p, e, fun j F hF => (h4 j F hF).below hb⟩
theorem InW.take {w : World} {p : Option Addr} {n c m : Nat} {l : List Int} (h : InW w (.slice p n c) l) (hm : m ≤ n) : InW w (.slice p m c) (l.take m) := by
  obtain ⟨q, c', e, h⟩ := h
  injection e with e1 e2 e3
  subst e1 e2 e3
  have hl : (l.take m).length = m := by simp; omega
  refine ⟨p, c, by rw [hl], ?_⟩
  rcases h with rfl | ⟨g, o, e1, h1, h2, h3⟩
  · exact .inl (by simp)
  · refine .inr ⟨g, o, e1, h1, by omega, fun j x hx => h3 j x ?_⟩
    rw [List.getElem?_take] at hx
    split at hx
    · exact hx
    · cases hx
def RnT (way code : Int) (out : List Int) (n : Nat) (W : World) (e : Ending) (w' : World) : Prop := ∃ p c, e = .returned (.agg #[.int .i64 way, .int .i64 code, .slice p n c]) ∧ n ≤ c ∧ InW w' (.slice p n c) out ∧ Below W.heap.size W w'
theorem RnP.t {r : Int × Int × List Int} {way code : Int} {out : List Int} {n : Nat} {W : World} {e : Ending} {w' : World} (hr : r = (way, code, out)) (hn : n = out.length) (h : RnP r W e w') : RnT way code out n W e w' := by
  subst hr hn
  obtain ⟨p, c, h1, h2, h3⟩ := h
  refine ⟨p, c, h1, ?_, InW.own h2, h3⟩
  rcases h2.2 with ⟨e, h0⟩ | ⟨g', cap, cur, e, _, _, hle, _⟩
  · have h0' : out.length = 0 := h0
    omega
  · injection e with _ _ e3
    rw [e3]
    exact hle
theorem midfuel_any (w : World) (he : EnvW 14 w) (hfm : FmE w) (hmk : MkE w) (q : Option Addr) (n c : Nat) (L : List Mf) (hsm : Calls Tryz.prog 25 #[.slice q n c] w fun e w' => (e = .returned (.bool false) ∨ (e = .returned (.bool true) ∧ RwC w' q n c L)) ∧ Below w.heap.size w w') (iv : Value) (inp : List Int) (hin : InW w iv inp) (a0 b0 : Int) :
    Calls Tryz.prog 7 #[.slice q n c, iv, .int .i64 a0, .int .i64 b0] w fun e w' => e = .returned (.bool true) ∧ Below w.heap.size w w' := by
  obtain ⟨qi, ci, rfl, -⟩ := id hin
  by_cases h20 : 20 < inp.length
  · have h20' : (20 : Int) < inp.length := by omega
    clear he hin hfm hmk hsm
    go_enter Tryz.func7, Tryz.ntmps7
    go_wp2
    go_ret
    exact ⟨rfl, Below.refl _ _⟩
  have h20' : ¬ (20 : Int) < inp.length := by omega
  have HE : Hid (∀ w', Below w.heap.size w w' → EnvW 14 w' ∧ FmE w' ∧ MkE w') := fun w' hb => ⟨he.below hb, hfm.below hb, hmk.below hb⟩
  have HIn : Hid (∀ w', Below w.heap.size w w' → InW w' (.slice qi inp.length ci) inp) := fun w' hb => hin.below hb
  have HSm : Hid (Calls Tryz.prog 25 #[.slice q n c] w fun e w' => (e = .returned (.bool false) ∨ (e = .returned (.bool true) ∧ RwC w' q n c L)) ∧ Below w.heap.size w w') := hsm
  obtain ⟨ni, hni⟩ : ∃ ni, ni = inp.length := ⟨_, rfl⟩
  rw [← hni] at HIn h20' ⊢
  clear he hin hni h20 hfm hmk hsm
  go_enter Tryz.func7, Tryz.ntmps7
  go_wp2_with (go_at_call 25; fail)
  refine HSm.out.mono ?_
  rintro e w1 ⟨rfl | ⟨rfl, hrw⟩, hb⟩
  · have HB : Hid (Below w.heap.size w w1) := hb
    clear hb
    go_wp2
    go_ret
    exact ⟨rfl, HB.out⟩
  have HB : Hid (Below w.heap.size w w1) := hb
  have HRw : Hid (RwC w1 q n c L) := hrw
  have HLo : Hid (Calls Tryz.prog 19 #[] w1 fun e w' => e = .returned (.bool true) ∧ Below w1.heap.size w1 w') := lowered_ok w1 (HE.out _ hb).1 (HE.out _ hb).2.1 (HE.out _ hb).2.2
  clear hb hrw HSm
  go_wp2_with (go_at_call 19; fail)
  refine HLo.out.mono ?_
  rintro e w2 ⟨rfl, hb2⟩
  have HB2 : Hid (Below w.heap.size w w2) := HB.out.trans (hb2.mono HB.out.size)
  have hbx : Below w2.heap.size w2 (w2.alloc (.cells #[.slice q n c] 53)) := zt _ _
  have HCd : Hid (∀ W, Below (w2.alloc (.cells #[.slice q n c] 53)).heap.size (w2.alloc (.cells #[.slice q n c] 53)) W → CodeAt W w2.heap.size q c L ∧ Below w.heap.size w W) := fun W hW => by
    have h2 : Below w2.heap.size w2 W := hbx.trans (hW.mono (by simp))
    refine ⟨HRw.out.code (hb2.trans (h2.mono hb2.size)) ?_, HB2.out.trans (h2.mono HB2.out.size)⟩
    rw [hW.cell (p := ⟨w2.heap.size, 0, none⟩) (by simp)]
    exact z_ (i := 0) (heap_alloc_last _ _) rfl
  clear hb2 hbx
  go_wp2_with (go_at_call 11; fail)
  refine (pick_11 _ _ 300 (by omega) (by omega)).mono ?_
  rintro e w3 ⟨rfl, rfl⟩
  go_wp2_with (go_at_call 11; fail)
  refine (pick_11 _ _ 300 (by omega) (by omega)).mono ?_
  rintro e w3 ⟨rfl, rfl⟩
  have ha := pickN_lt a0 (n := 300) (by omega)
  have hb := pickN_lt b0 (n := 300) (by omega)
  generalize pickN a0 300 = a at *
  generalize pickN b0 300 = b at *
  have hw2 : Below w.heap.size w w2 := HB2.out
  have HRi : Hid (∀ W, Below (w2.alloc (.cells #[.slice q n c] 53)).heap.size (w2.alloc (.cells #[.slice q n c] 53)) W → Calls Tryz.prog 22 #[ptr w2.heap.size] W (LkP (zK L) W)) := fun W hW => by
    obtain ⟨h1, h2⟩ := HCd.out W hW
    exact Right_any W _ q c L h1 (HE.out _ h2).2.1 (HE.out _ h2).2.2
  obtain ⟨wx, cx, ox, hrx⟩ : ∃ way code out, zL 700 L inp (a : Int) = (way, code, out) := ⟨_, _, _, rfl⟩
  obtain ⟨wy, cy, oy, hry⟩ : ∃ way code out, zL 700 L inp ((a : Int) + (b : Int)) = (way, code, out) := ⟨_, _, _, rfl⟩
  have hfu := run_more 700 L inp (a : Int) b
  rw [hrx, hry] at hfu
  have hmy : oy.length ≤ 200 := by have := run_out 700 L inp ((a : Int) + (b : Int)); rw [hry] at this; exact this
  have hwr : zK L = false → wx = 9 ∧ wy = 9 := fun h => ⟨by have := run_wrong (g := 700) h inp (a : Int); rw [hrx] at this; exact this, by have := run_wrong (g := 700) h inp ((a : Int) + (b : Int)); rw [hry] at this; exact this⟩
  obtain ⟨nx, hnx⟩ : ∃ nx, nx = ox.length := ⟨_, rfl⟩
  obtain ⟨ny, hny⟩ : ∃ ny, ny = oy.length := ⟨_, rfl⟩
  have hxy : nx ≤ ny := by rw [hnx, hny]; exact hfu.1.length_le
  have htk : oy.take nx = ox := by rw [hnx]; exact (List.prefix_iff_eq_take.1 hfu.1).symm
  have HRx : Hid (∀ W, Below (w2.alloc (.cells #[.slice q n c] 53)).heap.size (w2.alloc (.cells #[.slice q n c] 53)) W → Calls Tryz.prog 24 #[ptr w2.heap.size, .slice qi ni ci, .int .i64 (a : Int)] W (RnT wx cx ox nx W)) := fun W hW => by
    obtain ⟨h1, h2⟩ := HCd.out W hW
    exact (Run_any W _ q c L _ inp (a : Int) 700 h1 (HE.out _ h2).2.1 (HE.out _ h2).2.2 (HIn.out W h2) (by omega) (by omega)).mono fun e w' h => h.t hrx hnx
  have HRy : Hid (∀ W, Below (w2.alloc (.cells #[.slice q n c] 53)).heap.size (w2.alloc (.cells #[.slice q n c] 53)) W → Calls Tryz.prog 24 #[ptr w2.heap.size, .slice qi ni ci, .int .i64 ((a : Int) + (b : Int))] W (RnT wy cy oy ny W)) := fun W hW => by
    obtain ⟨h1, h2⟩ := HCd.out W hW
    exact (Run_any W _ q c L _ inp ((a : Int) + (b : Int)) 700 h1 (HE.out _ h2).2.1 (HE.out _ h2).2.2 (HIn.out W h2) (by omega) (by omega)).mono fun e w' h => h.t hry hny
  have HEq : Hid (∀ W v1 v2, InW W v1 ox → InW W v2 ox → Calls Tryz.prog 13 #[v1, v2] W fun e w' => e = .returned (.bool true) ∧ Below W.heap.size W w') := fun W v1 v2 h1 h2 => equal_sm W v1 v2 ox h1 h2 (by omega)
  have HTk : Hid (oy.take nx = ox) := htk
  have HOl : Hid (ox.length ≤ 200) := by show _ ≤ _; omega
  have hny200 : ny ≤ 200 := by omega
  have HFu : Hid (wx = 6 ∨ (wx = wy ∧ cx = cy ∧ nx = ny ∧ ox = oy)) := by
    rcases hfu.2 with h | h
    · exact .inl h
    · injection h with e1 e
      injection e with e2 e3
      exact .inr ⟨e1, e2, by rw [hnx, hny, e3], e3⟩
  have HWr : Hid (zK L = false → wx = 9 ∧ wy = 9) := hwr
  have HBx : Hid (Below w.heap.size w (w2.alloc (.cells #[.slice q n c] 53))) := hw2.trans ((zt w2 _).mono hw2.size)
  clear hrx hry hfu hmy hwr hnx hny htk hw2
  obtain ⟨W3, hW3⟩ : ∃ W3, W3 = w2.alloc (.cells #[.slice q n c] 53) := ⟨_, rfl⟩
  rw [← hW3] at HRi HRx HRy HBx ⊢
  clear hW3 HCd
  go_wp2_with (go_at_call 24; fail)
  refine (HRx.out _ (Below.refl _ _)).mono ?_
  rintro e w4 ⟨p4, c4, rfl, hc4, hi4, hb4⟩
  have HB4 : Hid (Below W3.heap.size W3 w4) := hb4
  have HI4 : Hid (InW w4 (.slice p4 nx c4) ox) := hi4
  clear hb4 hi4
  go_wp2_with (go_at_call 24; fail)
  refine (HRy.out _ HB4.out).mono ?_
  rintro e w5 ⟨p5, c5, rfl, hc5, hi5, hb5⟩
  have HB5 : Hid (Below W3.heap.size W3 w5) := HB4.out.trans (hb5.mono HB4.out.size)
  have HI5 : Hid (InW w5 (.slice p4 nx c4) ox ∧ InW w5 (.slice p5 ny c5) oy) := ⟨HI4.out.below hb5, hi5⟩
  clear hb5 hi5
  obtain ⟨W7, hW7⟩ : ∃ W7, W7 = (w5.alloc (.cells #[.int .i64 wx, .int .i64 cx, .slice p4 nx c4] 29)).alloc (.cells #[.int .i64 wy, .int .i64 cy, .slice p5 ny c5] 29) := ⟨_, rfl⟩
  have hb7 : Below w5.heap.size w5 W7 := by rw [hW7]; exact (zt _ _).trans ((zt (w5.alloc _) _).mono (by simp))
  have HB7 : Hid (Below W3.heap.size W3 W7) := HB5.out.trans (hb7.mono HB5.out.size)
  have HC22 : Hid (Calls Tryz.prog 22 #[ptr w2.heap.size] W7 (LkP (zK L) W7)) := HRi.out _ HB7.out
  go_wp2_with (go_at_call 22; fail)
  rw [← hW7]
  refine HC22.out.mono ?_
  rintro e w8 ⟨rfl, hb8⟩
  have hg1 : W7.heap[w5.heap.size]? = some (.cells #[.int .i64 wx, .int .i64 cx, .slice p4 nx c4] 29) := by
    rw [hW7, zc (by simp)]
    exact heap_alloc_last _ _
  have hg2 : W7.heap[w5.heap.size + 1]? = some (.cells #[.int .i64 wy, .int .i64 cy, .slice p5 ny c5] 29) := by
    rw [hW7]
    have := heap_alloc_last (w5.alloc (.cells #[.int .i64 wx, .int .i64 cx, .slice p4 nx c4] 29)) (.cells #[.int .i64 wy, .int .i64 cy, .slice p5 ny c5] 29)
    simpa using this
  have HS : Hid (∀ W, Below W7.heap.size W7 W → W.cell? ⟨w5.heap.size, 0, none⟩ = some (.int .i64 wx) ∧ W.cell? ⟨w5.heap.size, 1, none⟩ = some (.int .i64 cx) ∧ W.cell? ⟨w5.heap.size, 2, none⟩ = some (.slice p4 nx c4) ∧ W.cell? ⟨w5.heap.size + 1, 0, none⟩ = some (.int .i64 wy) ∧ W.cell? ⟨w5.heap.size + 1, 1, none⟩ = some (.int .i64 cy) ∧ W.cell? ⟨w5.heap.size + 1, 2, none⟩ = some (.slice p5 ny c5)) := fun W hW => by
    have r1 := (hW.block _ (Array.getElem?_eq_some_iff.1 hg1).1).trans hg1
    have r2 := (hW.block _ (Array.getElem?_eq_some_iff.1 hg2).1).trans hg2
    exact ⟨z_ (i := 0) r1 rfl, z_ (i := 1) r1 rfl, z_ (i := 2) r1 rfl, z_ (i := 0) r2 rfl, z_ (i := 1) r2 rfl, z_ (i := 2) r2 rfl⟩
  have HI7 : Hid (∀ W, Below W7.heap.size W7 W → InW W (.slice p4 nx c4) ox ∧ InW W (.slice p5 nx c5) ox ∧ InW W (.slice p5 ny c5) oy) := fun W hW => by
    have h1 := (HI5.out.1.below hb7).below hW
    have h2 := (HI5.out.2.below hb7).below hW
    exact ⟨h1, by rw [← HTk.out]; exact h2.take hxy, h2⟩
  have HW7 : Hid (∀ W, Below W7.heap.size W7 W → Below w.heap.size w W) := fun W hW => (HBx.out.trans (HB7.out.mono HBx.out.size)).trans (hW.mono (Nat.le_trans HBx.out.size HB7.out.size))
  have HB8 : Hid (Below W7.heap.size W7 w8) := hb8
  obtain ⟨x0, x1, x2, y0, y1, y2⟩ := HS.out w8 hb8
  have d3 : (nx : Int) ≤ (c5 : Int) := by omega
  have d4 : nx ≤ c5 := by omega
  have d5 : (nx : Int) ≤ (ny : Int) := by omega
  clear hW7 hb7 hg1 hg2 hb8 HRi HRx HRy HI4 HI5 HC22 HB4 HB5
  cases hR : zK L with
  | false =>
    obtain ⟨rfl, rfl⟩ := HWr.out hR
    go_wp2
    go_ret
    exact ⟨rfl, HW7.out _ HB8.out⟩
  | true =>
    have HBd : Hid (Below W7.heap.size W7 w8.drew) := HB8.out.trans ((zl _ _).mono HB8.out.size)
    have HI9 : Hid (InW w8.drew (.slice p4 nx c4) ox ∧ InW w8.drew (.slice p5 nx c5) ox ∧ InW w8.drew (.slice p5 ny c5) oy) := HI7.out _ HBd.out
    by_cases h6 : wx = 6
    · subst h6
      obtain ⟨z0, z1, z2, t0, t1, t2⟩ := HS.out w8.drew HBd.out
      go_upto_region 11 with fail
      set_option warningAsError false in
      first
      | (go_region_held3 (fun w' => w'.cell? ⟨w5.heap.size, 0, none⟩ = some (.int .i64 6) ∧ w'.cell? ⟨w5.heap.size, 1, none⟩ = some (.int .i64 cx) ∧ w'.cell? ⟨w5.heap.size, 2, none⟩ = some (.slice p4 nx c4) ∧ w'.cell? ⟨w5.heap.size + 1, 0, none⟩ = some (.int .i64 wy) ∧ w'.cell? ⟨w5.heap.size + 1, 1, none⟩ = some (.int .i64 cy) ∧ w'.cell? ⟨w5.heap.size + 1, 2, none⟩ = some (.slice p5 ny c5))
            (first | exact ⟨by with_reducible assumption, by with_reducible assumption, by with_reducible assumption, by with_reducible assumption, by with_reducible assumption, by with_reducible assumption⟩)
            (first
            | (go_at_call 13; refine (HEq.out _ _ _ HI9.out.1 HI9.out.2.1).mono ?_; rintro e wA ⟨rfl, hbA⟩; have HbA : Hid (Below W7.heap.size W7 wA) := HBd.out.trans (hbA.mono HBd.out.size); obtain ⟨k0, k1, k2, k3, k4, k5⟩ := HS.out wA HbA.out; clear hbA)))
      | fail
      all_goals
        go_wp2
        go_ret
        exact ⟨rfl, HW7.out _ HbA.out⟩
    · rcases HFu.out with h | ⟨e1, e2, e3, e4⟩
      · exact absurd h h6
      subst e1 e2 e3 e4
      have h6' : (wx == 6) = false := by simpa using h6
      obtain ⟨z0, z1, z2, t0, t1, t2⟩ := HS.out w8.drew HBd.out
      go_upto_region 11 with fail
      go_region_held3 (fun w' => w'.cell? ⟨w5.heap.size, 0, none⟩ = some (.int .i64 wx) ∧ w'.cell? ⟨w5.heap.size, 1, none⟩ = some (.int .i64 cx) ∧ w'.cell? ⟨w5.heap.size, 2, none⟩ = some (.slice p4 nx c4) ∧ w'.cell? ⟨w5.heap.size + 1, 0, none⟩ = some (.int .i64 wx) ∧ w'.cell? ⟨w5.heap.size + 1, 1, none⟩ = some (.int .i64 cx) ∧ w'.cell? ⟨w5.heap.size + 1, 2, none⟩ = some (.slice p5 nx c5))
        (first | exact ⟨by with_reducible assumption, by with_reducible assumption, by with_reducible assumption, by with_reducible assumption, by with_reducible assumption, by with_reducible assumption⟩)
        (first
        | (go_at_call 13; refine (HEq.out _ _ _ HI9.out.1 HI9.out.2.1).mono ?_; rintro e wA ⟨rfl, hbA⟩; have HbA : Hid (Below W7.heap.size W7 wA) := HBd.out.trans (hbA.mono HBd.out.size); obtain ⟨k0, k1, k2, k3, k4, k5⟩ := HS.out wA HbA.out; clear hbA; have HE17 : Hid (Calls Tryz.prog 17 #[.agg #[.int .i64 wx, .int .i64 cx, .slice p4 nx c4], .agg #[.int .i64 wx, .int .i64 cx, .slice p5 nx c5]] wA fun e w' => e = .returned (.bool true) ∧ Below wA.heap.size wA w') := sameEnd_17 wA wx cx p4 p5 nx c4 c5 ox (HI7.out wA HbA.out).1 (HI7.out wA HbA.out).2.1 (by have := HOl.out; omega))
        | (go_at_call 17; refine HE17.out.mono ?_; rintro e wB ⟨rfl, hbB⟩; have HbB : Hid (Below W7.heap.size W7 wB) := HbA.out.trans (hbB.mono HbA.out.size); obtain ⟨m0, m1, m2, m3, m4, m5⟩ := HS.out wB HbB.out; clear hbB))
      all_goals
        go_wp2
        go_ret
        exact ⟨rfl, HW7.out _ HbB.out⟩
end Go.Proofs.YtnfhpdbbfejioaaGreatDoor.Mid
