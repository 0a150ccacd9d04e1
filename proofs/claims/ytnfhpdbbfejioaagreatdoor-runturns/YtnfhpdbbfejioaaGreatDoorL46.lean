/- RunFuel, walked. -/
import Derived.Test.YtnfhpdbbfejioaaGreatDoorL45
import Derived.Test.YtnfhpdbbfejioaaGreatDoorL28
import Derived.BigQuiet
import Derived.Deep.Upon
import Derived.Deep.AppendLies
namespace Go.Proofs.YtnfhpdbbfejioaaGreatDoor
set_option linter.unusedVariables false
set_option linter.unusedSimpArgs false
open Go Go.RowKit
theorem drewN_bel (w : World) (m : Nat) : Below w.heap.size w (w.drewN m) := ⟨rfl, rfl, rfl, Nat.le_refl _, fun _ _ => rfl⟩
set_option maxRecDepth 100000 in
set_option maxHeartbeats 1000000 in
/-- Equal of two that are the same only draws. -/
theorem equal_q (w : World) (v1 v2 : Value) (l : List Int) (h1 : InW w v1 l) (h2 : InW w v2 l) (hl : l.length ≤ 100000) :
    Calls Tryz.prog 13 #[v1, v2] w fun e w' => e = .returned (.bool true) ∧ ∃ m, w' = w.drewN m := by
  obtain ⟨p, c, rfl, h1⟩ := h1
  obtain ⟨q, d, rfl, h2⟩ := h2
  obtain ⟨n, hn⟩ : ∃ n, n = l.length := ⟨_, rfl⟩
  have H1 : Hid (∀ j, j < n → ∃ g o, p = some ⟨g, o, none⟩ ∧ g < w.heap.size ∧ ∀ j, j < n → w.cell? ⟨g, o + j, none⟩ = some (.int .i64 (l.getD j 0))) := fun j hj => by
    rcases h1 with rfl | ⟨g, o, e, hg, _, hx⟩
    · simp at hn; omega
    · exact ⟨g, o, e, hg, fun j hj => hx j _ (by rw [List.getElem?_eq_getElem (by omega)]; simp [List.getD_eq_getElem?_getD, List.getElem?_eq_getElem (show j < l.length by omega)])⟩
  have H2 : Hid (∀ j, j < n → ∃ g o, q = some ⟨g, o, none⟩ ∧ g < w.heap.size ∧ ∀ j, j < n → w.cell? ⟨g, o + j, none⟩ = some (.int .i64 (l.getD j 0))) := fun j hj => by
    rcases h2 with rfl | ⟨g, o, e, hg, _, hx⟩
    · simp at hn; omega
    · exact ⟨g, o, e, hg, fun j hj => hx j _ (by rw [List.getElem?_eq_getElem (by omega)]; simp [List.getD_eq_getElem?_getD, List.getElem?_eq_getElem (show j < l.length by omega)])⟩
  have hn6 : n ≤ 100000 := by omega
  rw [← hn]
  clear h1 h2 hn hl
  go_enter Tryz.func13, Tryz.ntmps13
  go_wp2
  go_loopw [13] (fun i wr => ∃ j : Nat, j ≤ n ∧ i = .int .i64 j ∧ Hid (∃ m, wr = w.drewN m)) (fun i _ => n - (intOf i).toNat)
  case atStart => exact ⟨0, Nat.zero_le _, rfl, 0, rfl⟩
  case round =>
    obtain ⟨j, hj, rfl, hb⟩ := hrel
    by_cases hlt : j < n
    · obtain ⟨g, o, rfl, hg, hc⟩ := H1.out j hlt
      obtain ⟨g', o', rfl, hg', hc'⟩ := H2.out j hlt
      have k1 : wr.cell? ⟨g, o + j, none⟩ = some (.int .i64 (l.getD j 0)) := by obtain ⟨m, rfl⟩ := hb.out; exact hc j hlt
      have k2 : wr.cell? ⟨g', o' + j, none⟩ = some (.int .i64 (l.getD j 0)) := by obtain ⟨m, rfl⟩ := hb.out; exact hc' j hlt
      have hb2 : Hid (∃ m, wr.drew = w.drewN m) := by obtain ⟨m, rfl⟩ := hb.out; exact ⟨m + 1, rfl⟩
      generalize l.getD j 0 = x at *
      clear hc hc'
      go_wp2
      go_region
      go_wp2
      exact ⟨⟨j + 1, by omega, by go_num, hb2⟩, by simp [intOf]; omega⟩
    · have e : j = n := by omega
      subst e
      go_wp2
      go_ret
      exact ⟨rfl, hb.out⟩
theorem InW.take {w : World} {p : Option Addr} {n c m : Nat} {l : List Int} (h : InW w (.slice p n c) l) (hm : m ≤ n) : InW w (.slice p m c) (l.take m) := by
  obtain ⟨q, c', e, h⟩ := h
  injection e with e1 e2 e3
  subst e1 e2 e3
  have hl : (l.take m).length = m := by simp; omega
  refine ⟨p, c, by rw [hl], ?_⟩
  rcases h with rfl | ⟨g, o, e1, h1, h2, h3⟩
  · exact .inl (by simp)
  · refine .inr ⟨g, o, e1, h1, by omega, fun j x hx => h3 j x ?_⟩
    rw [List.getElem?_take] at hx
    split at hx
    · exact hx
    · cases hx
/-- A list laid anew. -/
theorem app_run (w : World) (qi : Option Addr) (ni ci : Nat) (inp : List Int) (hi : InW w (.slice qi ni ci) inp) (h20 : ni ≤ 20) :
    ∃ p c W', (Builtin.append_ #[22, 22] 22 #[.slice (some ⟨w.heap.size, 0, none⟩) 0 0, .slice qi ni ci]).run Tryz.prog (w.alloc (.cells #[] 2)) = .ok (.slice p ni c) W' ∧ InW W' (.slice p ni c) inp ∧ Below w.heap.size w W' := by
  obtain ⟨i, hi2, hz0, hz1, hz2⟩ := info_parts info2
  obtain ⟨q, c, e, hq⟩ := hi
  injection e with e1 e2 e3
  subst e1 e2 e3
  have hb : Below w.heap.size w (w.alloc (.cells #[] 2)) := al_below _ _
  have hown : (w.alloc (.cells #[] 2)).ownsRow w.heap.size 2 1 (.slice (some ⟨w.heap.size, 0, none⟩) 0 0) 0 [] := ⟨rfl, .inr ⟨w.heap.size, 0, #[], rfl, Nat.le_refl _, heap_alloc_last _ _, Nat.le_refl _, by unfold maxLen; omega, rfl, rfl⟩⟩
  rcases Nat.eq_zero_or_pos inp.length with h0 | h0
  · have hn : inp = [] := List.eq_nil_of_length_eq_zero h0
    subst hn
    refine ⟨_, _, _, run_append_nothing _ 22 22 22 2 i Tryz.underlying22 hi2 (some ⟨w.heap.size, 0, none⟩) 0 0 (Nat.le_refl _) _ ?_, ⟨_, _, rfl, .inl rfl⟩, hb⟩
    cases qi with
    | none => exact Src.ofNil _ Tryz.underlying22 ci
    | some ad => exact Src.ofSlice _ Tryz.underlying22 ad 0 ci [] (by simp) (fun j u hu => by simp at hu) (fun u hu => by simp at hu)
  · rcases hq with he | ⟨g, o, rfl, hg, hle, hx⟩
    · exact absurd h0 (by rw [he]; simp)
    · have f1 : ∀ (j : Nat) (u : Value), (ints inp)[j]? = some u → (w.alloc (.cells #[] 2)).cell? ((⟨g, o, none⟩ : Addr).add j) = some u := by
        intro j u hu
        rw [List.getElem?_map] at hu
        obtain ⟨x, hx', rfl⟩ := Option.map_eq_some_iff.1 hu
        have e : (⟨g, o, none⟩ : Addr).add j = ⟨g, o + j, none⟩ := by unfold Addr.add; split <;> simp_all
        rw [e, hb.cell (p := ⟨g, o + j, none⟩) hg]
        exact hx j x hx'
      obtain ⟨g', cap, W', hr, h2, h3, h4, h5⟩ := run_append_lies (w.alloc (.cells #[] 2)) 22 22 w.heap.size 2 i _ 1 8 Tryz.underlying22 hi2 hz0 hz1 hz2 rfl (by decide) _ 0 [] hown ⟨g, o, none⟩ inp.length ci (ints inp) (by simp) f1 (fun u hu => by obtain ⟨x, _, rfl⟩ := List.mem_map.1 hu; rfl) h0 (by unfold maxLen; omega) (by omega) (by simp) _ rfl
      rw [Nat.zero_add, List.nil_append] at h2
      rw [Nat.zero_add] at hr
      exact ⟨_, _, W', hr, InW.of_own h2, hb.grown h3 (by simp) (fun k e => by have e' : some w.heap.size = some k := e; injection e' with e'; omega)⟩
/-- An append whose run is known. -/
theorem wpl_run_append {P : Program} (w : World) {ops : Array Oper} {rest : List Oper} {o : Oper} {a : Act} {Q : Exit → Act → World → Prop} (hgd : o.guard = none) (s x : Operand) (t tx : TypeId)
    (ho : o.op = .call { callee := .builtin .append, args := #[s, x], argTypes := #[t, tx] }) {v xv v' : Value} {w' : World} (hv : a.eval s = v) (hx : a.eval x = xv)
    (hrun : (Builtin.append_ #[t, tx] o.type #[v, xv]).run P w = .ok v' w') (hK : wpList P ops Q rest (a.put o.dst v') w') : wpList P ops Q (o :: rest) a w := by
  refine wpList_plain hgd fun K hK' => ?_
  unfold Oper.wp
  simp [execOp, ho, resolve, invoke, builtin, hv, hx, hrun, Result.andThen]
  exact hK' _ _ hK
/-- Done, or no code. -/
theorem run_code (g : Nat) (L : List Fun) (inp : List Int) (a : Nat) : (rnV g L inp a).1 = 1 ∨ (rnV g L inp a).2.1 = 0 := by
  unfold rnV
  split
  · exact .inr rfl
  · exact .inl rfl
/-- A run, as numbers; room. -/
def RnW (way code : Int) (out : List Int) (n : Nat) (W : World) (e : Ending) (w' : World) : Prop := ∃ p c, e = .returned (.agg #[.int .i64 way, .int .i64 code, .slice p n c]) ∧ n ≤ c ∧ InW w' (.slice p n c) out ∧ Below W.heap.size W w'
theorem run_to {s : By} (hs : s.length ≤ 1000000) {L : List Fun} (h : parseV s = .ok (chain (L.map Fun.tr))) (hc : chk L = .ok true) {inp : List Int} {a : Nat} (ha : a ≤ 1000000) {g : Nat} (hg : ∀ k, (rnV (g + k) L inp a).1 ≠ 99 ∧ rnV (g + k) L inp a = rnV g L inp a) {way code : Int} {out : List Int} {n : Nat} (hr : rnV g L inp a = (way, code, out)) (hn : n = out.length) (W : World) (v iv : Value) (hv : Got W v L) (hi : InW W iv inp) :
    Calls Tryz.prog 12 #[v, iv, .int .i64 (a : Int)] W (RnW way code out n W) := by
  have e2 := hg 2
  have := goes_any W v iv L (li_of hv) (read_rf hs h).2 (read_rf hs h).1 hc inp hi a ha g e2.1
  rw [e2.2, hr] at this
  refine this.mono ?_
  rintro e w' ⟨p, c, h1, h2, h3⟩
  subst hn
  refine ⟨p, c, h1, ?_, InW.of_own h2, h3⟩
  rcases h2.2 with ⟨e, h0⟩ | ⟨g', cap, cur, e, _, _, hle, _⟩
  · have h0' : out.length = 0 := h0
    omega
  · injection e with _ _ e3
    rw [e3]
    exact hle
set_option maxRecDepth 100000 in
set_option maxHeartbeats 8000000 in
theorem fuel_any (w : World) (he : EnvW 14 w) (s : ByteArray) (iv : Value) (inp : List Int) (hin : InW w iv inp) (a0 b0 : Int) :
    Calls Tryz.prog 3 #[.string s, iv, .int .i64 a0, .int .i64 b0] w fun e w' => e = .returned (.bool true) ∧ Below w.heap.size w w' := by
  obtain ⟨qi, ci, rfl, -⟩ := id hin
  by_cases h20 : 20 < inp.length
  · have h20' : (20 : Int) < inp.length := by omega
    clear he hin
    go_enter Tryz.func3, Tryz.ntmps3
    go_wp2
    go_ret
    exact ⟨rfl, Below.refl _ _⟩
  have h20' : ¬ (20 : Int) < inp.length := by omega
  have HD : Hid (Calls Tryz.prog 9 #[] w fun e w' => e = .returned (.bool true) ∧ Below w.heap.size w w') := goes_ok w he
  have HE : Hid (∀ w', Below w.heap.size w w' → EnvW 14 w') := fun w' hb => he.below hb
  have HIn : Hid (∀ w', Below w.heap.size w w' → InW w' (.slice qi inp.length ci) inp) := fun w' hb => hin.below hb
  obtain ⟨ni, hni⟩ : ∃ ni, ni = inp.length := ⟨_, rfl⟩
  rw [← hni] at HIn h20' ⊢
  have hn20 : ni ≤ 20 := by omega
  clear he hin hni h20
  go_enter Tryz.func3, Tryz.ntmps3
  go_wp2_with (first | (go_at_call 9; refine HD.out.mono ?_; rintro e w1 ⟨rfl, hb⟩; have HB : Hid (Below w.heap.size w w1) := hb; clear hb) | (go_at_call 10; fail))
  refine (right_any w1 (HE.out _ HB.out) s).mono ?_
  rintro e w2 ⟨hb, ⟨q, n, c, rfl⟩ | ⟨q, c, L, rfl, hsz, hp, hck, hg⟩⟩
  · have HB2 : Hid (Below w.heap.size w w2) := HB.out.trans (hb.mono HB.out.size)
    clear hb
    go_wp2
    go_ret
    exact ⟨rfl, HB2.out⟩
  · have HB2 : Hid (Below w.heap.size w w2) := HB.out.trans (hb.mono HB.out.size)
    have HL : Hid (s.data.toList.length ≤ 1000000 ∧ parseV s.data.toList = .ok (chain (L.map Fun.tr)) ∧ chk L = .ok true) := ⟨by omega, hp, hck⟩
    obtain ⟨n, hn⟩ : ∃ n, n = L.length := ⟨_, rfl⟩
    have HG : Hid (Got w2 (.slice q n c) L) := by rw [hn]; exact hg
    rw [← hn]
    clear hb hsz hp hck hg hn
    go_wp2_with (go_at_call 11; fail)
    refine (rpick_any _ _ (by decide) (by decide) _).mono ?_
    rintro e w3 ⟨a, ha, rfl, rfl⟩
    go_wp2_with (go_at_call 11; fail)
    refine (rpick_any _ _ (by decide) (by decide) _).mono ?_
    rintro e w3 ⟨b, hb, rfl, rfl⟩
    have ha' : (a : Int) ≤ 200 := by omega
    have hb' : (b : Int) ≤ 200 := by omega
    have hab : wrap64 ((a : Int) + (b : Int)) = ((a + b : Nat) : Int) := by unfold wrap64; omega
    obtain ⟨g1, hg1⟩ := run_ends L inp a
    obtain ⟨g2, hg2⟩ := run_ends L inp (a + b)
    have hgx : ∀ k, (rnV (g1 + g2 + k) L inp a).1 ≠ 99 ∧ rnV (g1 + g2 + k) L inp a = rnV (g1 + g2) L inp a := fun k => ⟨by rw [Nat.add_assoc]; exact (hg1 _).1, by rw [Nat.add_assoc, (hg1 _).2, (hg1 _).2]⟩
    have hgy : ∀ k, (rnV (g1 + g2 + k) L inp (a + b)).1 ≠ 99 ∧ rnV (g1 + g2 + k) L inp (a + b) = rnV (g1 + g2) L inp (a + b) := fun k => ⟨by rw [Nat.add_comm g1, Nat.add_assoc]; exact (hg2 _).1, by rw [Nat.add_comm g1, Nat.add_assoc, (hg2 _).2, (hg2 _).2]⟩
    obtain ⟨wx, cx, ox, hrx⟩ : ∃ way code out, rnV (g1 + g2) L inp a = (way, code, out) := ⟨_, _, _, rfl⟩
    obtain ⟨wy, cy, oy, hry⟩ : ∃ way code out, rnV (g1 + g2) L inp (a + b) = (way, code, out) := ⟨_, _, _, rfl⟩
    have hfu := run_fuel (g1 + g2) L inp a b
    rw [hrx, hry] at hfu
    have hmy : oy.length ≤ 200 := by have := run_max (g1 + g2) L inp (a + b); rw [hry] at this; exact this
    have hcd : wx = 1 ∨ cx = 0 := by have := run_code (g1 + g2) L inp a; rw [hrx] at this; exact this
    obtain ⟨nx, hnx⟩ : ∃ nx, nx = ox.length := ⟨_, rfl⟩
    obtain ⟨ny, hny⟩ : ∃ ny, ny = oy.length := ⟨_, rfl⟩
    have hxy : nx ≤ ny := by rw [hnx, hny]; exact hfu.1.length_le
    have htk : oy.take nx = ox := by rw [hnx]; exact (List.prefix_iff_eq_take.1 hfu.1).symm
    have HRx : Hid (∀ W v iv, Got W v L → InW W iv inp → Calls Tryz.prog 12 #[v, iv, .int .i64 (a : Int)] W (RnW wx cx ox nx W)) := fun W v iv hv hi => run_to (a := a) HL.out.1 HL.out.2.1 HL.out.2.2 (by omega) hgx hrx hnx W v iv hv hi
    have HRy : Hid (∀ W v iv, Got W v L → InW W iv inp → Calls Tryz.prog 12 #[v, iv, .int .i64 ((a : Int) + (b : Int))] W (RnW wy cy oy ny W)) := fun W v iv hv hi => run_to (a := a + b) HL.out.1 HL.out.2.1 HL.out.2.2 (by omega) hgy hry hny W v iv hv hi
    have HEq : Hid (∀ W v1 v2, InW W v1 ox → InW W v2 ox → Calls Tryz.prog 13 #[v1, v2] W fun e w' => e = .returned (.bool true) ∧ ∃ m, w' = W.drewN m) := fun W v1 v2 h1 h2 => equal_q W v1 v2 ox h1 h2 (by omega)
    have HTk : Hid (oy.take nx = ox) := htk
    have hny200 : ny ≤ 200 := by omega
    have hcases : (wx = 6 ∧ cx = 0) ∨ (wx = 1 ∧ wy = 1 ∧ cy = cx ∧ ny = nx) ∨ (wx ≠ 6 ∧ wx ≠ 1 ∧ cx = 0 ∧ wy = wx ∧ cy = 0 ∧ ny = nx) := by
      by_cases h6 : wx = 6
      · rcases hcd with h1 | h1
        · omega
        · exact .inl ⟨h6, h1⟩
      · have e := hfu.2 h6
        injection e with e1 e
        injection e with e2 e3
        have en : ny = nx := by rw [hnx, hny, e3]
        by_cases h1 : wx = 1
        · exact .inr (.inl ⟨h1, by omega, e2, en⟩)
        · rcases hcd with h2 | h2
          · exact absurd h2 h1
          · exact .inr (.inr ⟨h6, h1, h2, e1, by omega, en⟩)
    clear hg1 hg2 hgx hgy hrx hry hfu hmy hcd hnx hny htk hab
    rcases hcases with ⟨rfl, rfl⟩ | ⟨rfl, rfl, rfl, rfl⟩ | ⟨h6, h1, rfl, rfl, rfl, rfl⟩
    · skip
      go_wp2_with (go_at_call 12; fail)
      refine (HRx.out _ _ _ HG.out (HIn.out _ HB2.out)).mono ?_
      rintro e w4 ⟨p4, c4, rfl, hc4, hi4, hb4⟩
      have HB4 : Hid (Below w.heap.size w w4) := HB2.out.trans (hb4.mono HB2.out.size)
      have HG4 : Hid (Got w4 (.slice q n c) L ∧ InW w4 (.slice p4 nx c4) ox) := ⟨HG.out.below hb4, hi4⟩
      clear hb4 hi4
      go_wp2_with (go_at_call 12; fail)
      refine (HRy.out _ _ _ HG4.out.1 (HIn.out _ HB4.out)).mono ?_
      rintro e w5 ⟨p5, c5, rfl, hc5, hi5, hb5⟩
      have HB5 : Hid (Below w.heap.size w w5) := HB4.out.trans (hb5.mono HB4.out.size)
      have HG5 : Hid (Got w5 (.slice q n c) L ∧ InW w5 (.slice p4 nx c4) ox ∧ InW w5 (.slice p5 nx c5) ox) := ⟨HG4.out.1.below hb5, HG4.out.2.below hb5, by rw [← HTk.out]; exact hi5.take (by omega)⟩
      clear hb5 hi5
      go_wp2_with fail
      obtain ⟨W7, hW7⟩ : ∃ W7, W7 = (w5.alloc (.cells #[.int .i64 6, .int .i64 0, .slice p4 nx c4] 29)).alloc (.cells #[.int .i64 wy, .int .i64 cy, .slice p5 ny c5] 29) := ⟨_, rfl⟩
      have hb7 : Below w5.heap.size w5 W7 := by rw [hW7]; exact bel2 _ _ _
      have g1 : W7.heap[w5.heap.size]? = some (.cells #[.int .i64 6, .int .i64 0, .slice p4 nx c4] 29) := by rw [hW7]; exact al1 _ _ _
      have g2 : W7.heap[w5.heap.size + 1]? = some (.cells #[.int .i64 wy, .int .i64 cy, .slice p5 ny c5] 29) := by rw [hW7]; exact al2 _ _ _
      have x0 := cell_at (i := 0) g1 rfl
      have x1 := cell_at (i := 1) g1 rfl
      have x2 := cell_at (i := 2) g1 rfl
      have y0 := cell_at (i := 0) g2 rfl
      have y1 := cell_at (i := 1) g2 rfl
      have y2 := cell_at (i := 2) g2 rfl
      rw [← hW7]
      have HB7 : Hid (Below w.heap.size w W7) := HB5.out.trans (hb7.mono HB5.out.size)
      have HG7 : Hid (Got W7 (.slice q n c) L ∧ InW W7 (.slice p4 nx c4) ox ∧ InW W7 (.slice p5 nx c5) ox) := ⟨HG5.out.1.below hb7, HG5.out.2.1.below hb7, HG5.out.2.2.below hb7⟩
      have HX : Hid (W7.heap[w5.heap.size]? = some (.cells #[.int .i64 6, .int .i64 0, .slice p4 nx c4] 29)) := g1
      clear hW7 hb7 g1 g2
      have d1 : decide (ny < nx) = false := decide_eq_false (by omega)
      have d2 : decide (200 < ny) = false := decide_eq_false (by omega)
      have d3 : (nx : Int) ≤ (c5 : Int) := by omega
      have d4 : nx ≤ c5 := by omega
      go_quiet ((go_at_call 13; exact Calls.quiet_of (HEq.out _ _ _ (HG7.out.2.1.below (drewN_bel _ _)) (HG7.out.2.2.below (drewN_bel _ _)))))
      obtain ⟨W8, hW8⟩ : ∃ W8, W8 = W7.drewN nq := ⟨_, rfl⟩
      rw [← hW8]
      replace x0 : W8.cell? ⟨w5.heap.size, 0, none⟩ = some (.int .i64 6) := by rw [hW8]; exact x0
      replace x1 : W8.cell? ⟨w5.heap.size, 1, none⟩ = some (.int .i64 0) := by rw [hW8]; exact x1
      replace x2 : W8.cell? ⟨w5.heap.size, 2, none⟩ = some (.slice p4 nx c4) := by rw [hW8]; exact x2
      replace y0 : W8.cell? ⟨w5.heap.size + 1, 0, none⟩ = some (.int .i64 wy) := by rw [hW8]; exact y0
      replace y1 : W8.cell? ⟨w5.heap.size + 1, 1, none⟩ = some (.int .i64 cy) := by rw [hW8]; exact y1
      replace y2 : W8.cell? ⟨w5.heap.size + 1, 2, none⟩ = some (.slice p5 ny c5) := by rw [hW8]; exact y2
      have HB8 : Hid (Below w.heap.size w W8) := by rw [hW8]; exact HB7.out.trans ((drewN_bel W7 nq).mono HB7.out.size)
      have hlt : w5.heap.size < W8.heap.size := by rw [hW8]; exact (Array.getElem?_eq_some_iff.1 HX.out).1
      have HG8 : Hid (Got W8 (.slice q n c) L ∧ InW W8 (.slice p4 nx c4) ox) := by rw [hW8]; exact ⟨HG7.out.1.below (drewN_bel _ _), HG7.out.2.1.below (drewN_bel _ _)⟩
      clear hW8 d1 d2 d3 d4 HX
      obtain ⟨p9, c9, W9, hrun, hi9, hb9⟩ := app_run W8 qi ni ci inp (HIn.out _ HB8.out) hn20
      have HR9 : Hid ((Builtin.append_ #[22, 22] 22 #[.slice (some ⟨W8.heap.size, 0, none⟩) 0 0, .slice qi ni ci]).run Tryz.prog (W8.alloc (.cells #[] 2)) = .ok (.slice p9 ni c9) W9) := hrun
      have H9 : Hid (InW W9 (.slice p9 ni c9) inp ∧ Below W8.heap.size W8 W9) := ⟨hi9, hb9⟩
      clear hrun hi9 hb9
      go_wp2_with (first | (at_builtin; refine wpl_run_append _ rfl _ _ 22 22 rfl rfl rfl HR9.out ?_) | (go_at_call 12; fail))
      refine (HRx.out _ _ _ (HG8.out.1.below H9.out.2) H9.out.1).mono ?_
      rintro e w10 ⟨p10, c10, rfl, hc10, hi10, hb10⟩
      have hbz : Below W8.heap.size W8 w10 := H9.out.2.trans (hb10.mono H9.out.2.size)
      replace x0 : w10.cell? ⟨w5.heap.size, 0, none⟩ = some (.int .i64 6) := (hbz.cell (p := ⟨w5.heap.size, 0, none⟩) hlt).trans x0
      replace x1 : w10.cell? ⟨w5.heap.size, 1, none⟩ = some (.int .i64 0) := (hbz.cell (p := ⟨w5.heap.size, 1, none⟩) hlt).trans x1
      replace x2 : w10.cell? ⟨w5.heap.size, 2, none⟩ = some (.slice p4 nx c4) := (hbz.cell (p := ⟨w5.heap.size, 2, none⟩) hlt).trans x2
      have HB10 : Hid (Below w.heap.size w w10) := HB8.out.trans (hbz.mono HB8.out.size)
      have HG10 : Hid (InW w10 (.slice p4 nx c4) ox ∧ InW w10 (.slice p10 nx c10) ox) := ⟨HG8.out.2.below hbz, hi10⟩
      have hlt10 : w5.heap.size < w10.heap.size := Nat.lt_of_lt_of_le hlt hbz.size
      clear hbz hi10 hb10 hlt hc10 hc4 hc5 y0 y1 y2
      go_wp2_with fail
      obtain ⟨WA, hWA⟩ : ∃ WA, WA = w10.alloc (.cells #[.int .i64 6, .int .i64 0, .slice p10 nx c10] 29) := ⟨_, rfl⟩
      have hba : Below w10.heap.size w10 WA := by rw [hWA]; exact al_below _ _
      have g1 : WA.heap[w10.heap.size]? = some (.cells #[.int .i64 6, .int .i64 0, .slice p10 nx c10] 29) := by rw [hWA]; exact heap_alloc_last _ _
      have z0 := cell_at (i := 0) g1 rfl
      have z1 := cell_at (i := 1) g1 rfl
      have z2 := cell_at (i := 2) g1 rfl
      rw [← hWA]
      replace x0 : WA.cell? ⟨w5.heap.size, 0, none⟩ = some (.int .i64 6) := (hba.cell (p := ⟨w5.heap.size, 0, none⟩) hlt10).trans x0
      replace x1 : WA.cell? ⟨w5.heap.size, 1, none⟩ = some (.int .i64 0) := (hba.cell (p := ⟨w5.heap.size, 1, none⟩) hlt10).trans x1
      replace x2 : WA.cell? ⟨w5.heap.size, 2, none⟩ = some (.slice p4 nx c4) := (hba.cell (p := ⟨w5.heap.size, 2, none⟩) hlt10).trans x2
      have HBA : Hid (Below w.heap.size w WA) := HB10.out.trans (hba.mono HB10.out.size)
      have HGA : Hid (InW WA (.slice p4 nx c4) ox ∧ InW WA (.slice p10 nx c10) ox) := ⟨HG10.out.1.below hba, HG10.out.2.below hba⟩
      clear hWA hba g1
      refine (HEq.out _ _ _ HGA.out.2 HGA.out.1).mono ?_
      rintro e wb ⟨rfl, m, rfl⟩
      go_wp2
      go_ret
      exact ⟨rfl, HBA.out.trans ((drewN_bel WA _).mono HBA.out.size)⟩
    · skip
      go_wp2_with (go_at_call 12; fail)
      refine (HRx.out _ _ _ HG.out (HIn.out _ HB2.out)).mono ?_
      rintro e w4 ⟨p4, c4, rfl, hc4, hi4, hb4⟩
      have HB4 : Hid (Below w.heap.size w w4) := HB2.out.trans (hb4.mono HB2.out.size)
      have HG4 : Hid (Got w4 (.slice q n c) L ∧ InW w4 (.slice p4 ny c4) ox) := ⟨HG.out.below hb4, hi4⟩
      clear hb4 hi4
      go_wp2_with (go_at_call 12; fail)
      refine (HRy.out _ _ _ HG4.out.1 (HIn.out _ HB4.out)).mono ?_
      rintro e w5 ⟨p5, c5, rfl, hc5, hi5, hb5⟩
      have HB5 : Hid (Below w.heap.size w w5) := HB4.out.trans (hb5.mono HB4.out.size)
      have HG5 : Hid (Got w5 (.slice q n c) L ∧ InW w5 (.slice p4 ny c4) ox ∧ InW w5 (.slice p5 ny c5) ox) := ⟨HG4.out.1.below hb5, HG4.out.2.below hb5, by rw [← HTk.out]; exact hi5.take (by omega)⟩
      clear hb5 hi5
      go_wp2_with fail
      obtain ⟨W7, hW7⟩ : ∃ W7, W7 = (w5.alloc (.cells #[.int .i64 1, .int .i64 cy, .slice p4 ny c4] 29)).alloc (.cells #[.int .i64 1, .int .i64 cy, .slice p5 ny c5] 29) := ⟨_, rfl⟩
      have hb7 : Below w5.heap.size w5 W7 := by rw [hW7]; exact bel2 _ _ _
      have g1 : W7.heap[w5.heap.size]? = some (.cells #[.int .i64 1, .int .i64 cy, .slice p4 ny c4] 29) := by rw [hW7]; exact al1 _ _ _
      have g2 : W7.heap[w5.heap.size + 1]? = some (.cells #[.int .i64 1, .int .i64 cy, .slice p5 ny c5] 29) := by rw [hW7]; exact al2 _ _ _
      have x0 := cell_at (i := 0) g1 rfl
      have x1 := cell_at (i := 1) g1 rfl
      have x2 := cell_at (i := 2) g1 rfl
      have y0 := cell_at (i := 0) g2 rfl
      have y1 := cell_at (i := 1) g2 rfl
      have y2 := cell_at (i := 2) g2 rfl
      rw [← hW7]
      have HB7 : Hid (Below w.heap.size w W7) := HB5.out.trans (hb7.mono HB5.out.size)
      have HG7 : Hid (Got W7 (.slice q n c) L ∧ InW W7 (.slice p4 ny c4) ox ∧ InW W7 (.slice p5 ny c5) ox) := ⟨HG5.out.1.below hb7, HG5.out.2.1.below hb7, HG5.out.2.2.below hb7⟩
      have HX : Hid (W7.heap[w5.heap.size]? = some (.cells #[.int .i64 1, .int .i64 cy, .slice p4 ny c4] 29)) := g1
      clear hW7 hb7 g1 g2
      have d1 : decide (ny < ny) = false := decide_eq_false (by omega)
      have d2 : decide (200 < ny) = false := decide_eq_false (by omega)
      have d3 : (ny : Int) ≤ (c5 : Int) := by omega
      have d4 : ny ≤ c5 := by omega
      go_quiet ((go_at_call 13; exact Calls.quiet_of (HEq.out _ _ _ (HG7.out.2.1.below (drewN_bel _ _)) (HG7.out.2.2.below (drewN_bel _ _)))))
      obtain ⟨W8, hW8⟩ : ∃ W8, W8 = W7.drewN nq := ⟨_, rfl⟩
      rw [← hW8]
      replace x0 : W8.cell? ⟨w5.heap.size, 0, none⟩ = some (.int .i64 1) := by rw [hW8]; exact x0
      replace x1 : W8.cell? ⟨w5.heap.size, 1, none⟩ = some (.int .i64 cy) := by rw [hW8]; exact x1
      replace x2 : W8.cell? ⟨w5.heap.size, 2, none⟩ = some (.slice p4 ny c4) := by rw [hW8]; exact x2
      replace y0 : W8.cell? ⟨w5.heap.size + 1, 0, none⟩ = some (.int .i64 1) := by rw [hW8]; exact y0
      replace y1 : W8.cell? ⟨w5.heap.size + 1, 1, none⟩ = some (.int .i64 cy) := by rw [hW8]; exact y1
      replace y2 : W8.cell? ⟨w5.heap.size + 1, 2, none⟩ = some (.slice p5 ny c5) := by rw [hW8]; exact y2
      have HB8 : Hid (Below w.heap.size w W8) := by rw [hW8]; exact HB7.out.trans ((drewN_bel W7 nq).mono HB7.out.size)
      have hlt : w5.heap.size < W8.heap.size := by rw [hW8]; exact (Array.getElem?_eq_some_iff.1 HX.out).1
      have HG8 : Hid (Got W8 (.slice q n c) L ∧ InW W8 (.slice p4 ny c4) ox) := by rw [hW8]; exact ⟨HG7.out.1.below (drewN_bel _ _), HG7.out.2.1.below (drewN_bel _ _)⟩
      clear hW8 d1 d2 d3 d4 HX
      obtain ⟨p9, c9, W9, hrun, hi9, hb9⟩ := app_run W8 qi ni ci inp (HIn.out _ HB8.out) hn20
      have HR9 : Hid ((Builtin.append_ #[22, 22] 22 #[.slice (some ⟨W8.heap.size, 0, none⟩) 0 0, .slice qi ni ci]).run Tryz.prog (W8.alloc (.cells #[] 2)) = .ok (.slice p9 ni c9) W9) := hrun
      have H9 : Hid (InW W9 (.slice p9 ni c9) inp ∧ Below W8.heap.size W8 W9) := ⟨hi9, hb9⟩
      clear hrun hi9 hb9
      go_wp2_with (first | (at_builtin; refine wpl_run_append _ rfl _ _ 22 22 rfl rfl rfl HR9.out ?_) | (go_at_call 12; fail))
      refine (HRx.out _ _ _ (HG8.out.1.below H9.out.2) H9.out.1).mono ?_
      rintro e w10 ⟨p10, c10, rfl, hc10, hi10, hb10⟩
      have hbz : Below W8.heap.size W8 w10 := H9.out.2.trans (hb10.mono H9.out.2.size)
      replace x0 : w10.cell? ⟨w5.heap.size, 0, none⟩ = some (.int .i64 1) := (hbz.cell (p := ⟨w5.heap.size, 0, none⟩) hlt).trans x0
      replace x1 : w10.cell? ⟨w5.heap.size, 1, none⟩ = some (.int .i64 cy) := (hbz.cell (p := ⟨w5.heap.size, 1, none⟩) hlt).trans x1
      replace x2 : w10.cell? ⟨w5.heap.size, 2, none⟩ = some (.slice p4 ny c4) := (hbz.cell (p := ⟨w5.heap.size, 2, none⟩) hlt).trans x2
      have HB10 : Hid (Below w.heap.size w w10) := HB8.out.trans (hbz.mono HB8.out.size)
      have HG10 : Hid (InW w10 (.slice p4 ny c4) ox ∧ InW w10 (.slice p10 ny c10) ox) := ⟨HG8.out.2.below hbz, hi10⟩
      have hlt10 : w5.heap.size < w10.heap.size := Nat.lt_of_lt_of_le hlt hbz.size
      clear hbz hi10 hb10 hlt hc10 hc4 hc5 y0 y1 y2
      go_wp2_with fail
      obtain ⟨WA, hWA⟩ : ∃ WA, WA = w10.alloc (.cells #[.int .i64 1, .int .i64 cy, .slice p10 ny c10] 29) := ⟨_, rfl⟩
      have hba : Below w10.heap.size w10 WA := by rw [hWA]; exact al_below _ _
      have g1 : WA.heap[w10.heap.size]? = some (.cells #[.int .i64 1, .int .i64 cy, .slice p10 ny c10] 29) := by rw [hWA]; exact heap_alloc_last _ _
      have z0 := cell_at (i := 0) g1 rfl
      have z1 := cell_at (i := 1) g1 rfl
      have z2 := cell_at (i := 2) g1 rfl
      rw [← hWA]
      replace x0 : WA.cell? ⟨w5.heap.size, 0, none⟩ = some (.int .i64 1) := (hba.cell (p := ⟨w5.heap.size, 0, none⟩) hlt10).trans x0
      replace x1 : WA.cell? ⟨w5.heap.size, 1, none⟩ = some (.int .i64 cy) := (hba.cell (p := ⟨w5.heap.size, 1, none⟩) hlt10).trans x1
      replace x2 : WA.cell? ⟨w5.heap.size, 2, none⟩ = some (.slice p4 ny c4) := (hba.cell (p := ⟨w5.heap.size, 2, none⟩) hlt10).trans x2
      have HBA : Hid (Below w.heap.size w WA) := HB10.out.trans (hba.mono HB10.out.size)
      have HGA : Hid (InW WA (.slice p4 ny c4) ox ∧ InW WA (.slice p10 ny c10) ox) := ⟨HG10.out.1.below hba, HG10.out.2.below hba⟩
      clear hWA hba g1
      refine (HEq.out _ _ _ HGA.out.2 HGA.out.1).mono ?_
      rintro e wb ⟨rfl, m, rfl⟩
      go_wp2
      go_ret
      exact ⟨rfl, HBA.out.trans ((drewN_bel WA _).mono HBA.out.size)⟩
    · skip
      go_wp2_with (go_at_call 12; fail)
      refine (HRx.out _ _ _ HG.out (HIn.out _ HB2.out)).mono ?_
      rintro e w4 ⟨p4, c4, rfl, hc4, hi4, hb4⟩
      have HB4 : Hid (Below w.heap.size w w4) := HB2.out.trans (hb4.mono HB2.out.size)
      have HG4 : Hid (Got w4 (.slice q n c) L ∧ InW w4 (.slice p4 ny c4) ox) := ⟨HG.out.below hb4, hi4⟩
      clear hb4 hi4
      go_wp2_with (go_at_call 12; fail)
      refine (HRy.out _ _ _ HG4.out.1 (HIn.out _ HB4.out)).mono ?_
      rintro e w5 ⟨p5, c5, rfl, hc5, hi5, hb5⟩
      have HB5 : Hid (Below w.heap.size w w5) := HB4.out.trans (hb5.mono HB4.out.size)
      have HG5 : Hid (Got w5 (.slice q n c) L ∧ InW w5 (.slice p4 ny c4) ox ∧ InW w5 (.slice p5 ny c5) ox) := ⟨HG4.out.1.below hb5, HG4.out.2.below hb5, by rw [← HTk.out]; exact hi5.take (by omega)⟩
      clear hb5 hi5
      go_wp2_with fail
      obtain ⟨W7, hW7⟩ : ∃ W7, W7 = (w5.alloc (.cells #[.int .i64 wy, .int .i64 0, .slice p4 ny c4] 29)).alloc (.cells #[.int .i64 wy, .int .i64 0, .slice p5 ny c5] 29) := ⟨_, rfl⟩
      have hb7 : Below w5.heap.size w5 W7 := by rw [hW7]; exact bel2 _ _ _
      have g1 : W7.heap[w5.heap.size]? = some (.cells #[.int .i64 wy, .int .i64 0, .slice p4 ny c4] 29) := by rw [hW7]; exact al1 _ _ _
      have g2 : W7.heap[w5.heap.size + 1]? = some (.cells #[.int .i64 wy, .int .i64 0, .slice p5 ny c5] 29) := by rw [hW7]; exact al2 _ _ _
      have x0 := cell_at (i := 0) g1 rfl
      have x1 := cell_at (i := 1) g1 rfl
      have x2 := cell_at (i := 2) g1 rfl
      have y0 := cell_at (i := 0) g2 rfl
      have y1 := cell_at (i := 1) g2 rfl
      have y2 := cell_at (i := 2) g2 rfl
      rw [← hW7]
      have HB7 : Hid (Below w.heap.size w W7) := HB5.out.trans (hb7.mono HB5.out.size)
      have HG7 : Hid (Got W7 (.slice q n c) L ∧ InW W7 (.slice p4 ny c4) ox ∧ InW W7 (.slice p5 ny c5) ox) := ⟨HG5.out.1.below hb7, HG5.out.2.1.below hb7, HG5.out.2.2.below hb7⟩
      have HX : Hid (W7.heap[w5.heap.size]? = some (.cells #[.int .i64 wy, .int .i64 0, .slice p4 ny c4] 29)) := g1
      clear hW7 hb7 g1 g2
      have d1 : decide (ny < ny) = false := decide_eq_false (by omega)
      have d2 : decide (200 < ny) = false := decide_eq_false (by omega)
      have d3 : (ny : Int) ≤ (c5 : Int) := by omega
      have d4 : ny ≤ c5 := by omega
      go_quiet ((go_at_call 13; exact Calls.quiet_of (HEq.out _ _ _ (HG7.out.2.1.below (drewN_bel _ _)) (HG7.out.2.2.below (drewN_bel _ _)))))
      obtain ⟨W8, hW8⟩ : ∃ W8, W8 = W7.drewN nq := ⟨_, rfl⟩
      rw [← hW8]
      replace x0 : W8.cell? ⟨w5.heap.size, 0, none⟩ = some (.int .i64 wy) := by rw [hW8]; exact x0
      replace x1 : W8.cell? ⟨w5.heap.size, 1, none⟩ = some (.int .i64 0) := by rw [hW8]; exact x1
      replace x2 : W8.cell? ⟨w5.heap.size, 2, none⟩ = some (.slice p4 ny c4) := by rw [hW8]; exact x2
      replace y0 : W8.cell? ⟨w5.heap.size + 1, 0, none⟩ = some (.int .i64 wy) := by rw [hW8]; exact y0
      replace y1 : W8.cell? ⟨w5.heap.size + 1, 1, none⟩ = some (.int .i64 0) := by rw [hW8]; exact y1
      replace y2 : W8.cell? ⟨w5.heap.size + 1, 2, none⟩ = some (.slice p5 ny c5) := by rw [hW8]; exact y2
      have HB8 : Hid (Below w.heap.size w W8) := by rw [hW8]; exact HB7.out.trans ((drewN_bel W7 nq).mono HB7.out.size)
      have hlt : w5.heap.size < W8.heap.size := by rw [hW8]; exact (Array.getElem?_eq_some_iff.1 HX.out).1
      have HG8 : Hid (Got W8 (.slice q n c) L ∧ InW W8 (.slice p4 ny c4) ox) := by rw [hW8]; exact ⟨HG7.out.1.below (drewN_bel _ _), HG7.out.2.1.below (drewN_bel _ _)⟩
      clear hW8 d1 d2 d3 d4 HX
      obtain ⟨p9, c9, W9, hrun, hi9, hb9⟩ := app_run W8 qi ni ci inp (HIn.out _ HB8.out) hn20
      have HR9 : Hid ((Builtin.append_ #[22, 22] 22 #[.slice (some ⟨W8.heap.size, 0, none⟩) 0 0, .slice qi ni ci]).run Tryz.prog (W8.alloc (.cells #[] 2)) = .ok (.slice p9 ni c9) W9) := hrun
      have H9 : Hid (InW W9 (.slice p9 ni c9) inp ∧ Below W8.heap.size W8 W9) := ⟨hi9, hb9⟩
      clear hrun hi9 hb9
      go_wp2_with (first | (at_builtin; refine wpl_run_append _ rfl _ _ 22 22 rfl rfl rfl HR9.out ?_) | (go_at_call 12; fail))
      refine (HRx.out _ _ _ (HG8.out.1.below H9.out.2) H9.out.1).mono ?_
      rintro e w10 ⟨p10, c10, rfl, hc10, hi10, hb10⟩
      have hbz : Below W8.heap.size W8 w10 := H9.out.2.trans (hb10.mono H9.out.2.size)
      replace x0 : w10.cell? ⟨w5.heap.size, 0, none⟩ = some (.int .i64 wy) := (hbz.cell (p := ⟨w5.heap.size, 0, none⟩) hlt).trans x0
      replace x1 : w10.cell? ⟨w5.heap.size, 1, none⟩ = some (.int .i64 0) := (hbz.cell (p := ⟨w5.heap.size, 1, none⟩) hlt).trans x1
      replace x2 : w10.cell? ⟨w5.heap.size, 2, none⟩ = some (.slice p4 ny c4) := (hbz.cell (p := ⟨w5.heap.size, 2, none⟩) hlt).trans x2
      have HB10 : Hid (Below w.heap.size w w10) := HB8.out.trans (hbz.mono HB8.out.size)
      have HG10 : Hid (InW w10 (.slice p4 ny c4) ox ∧ InW w10 (.slice p10 ny c10) ox) := ⟨HG8.out.2.below hbz, hi10⟩
      have hlt10 : w5.heap.size < w10.heap.size := Nat.lt_of_lt_of_le hlt hbz.size
      clear hbz hi10 hb10 hlt hc10 hc4 hc5 y0 y1 y2
      go_wp2_with fail
      obtain ⟨WA, hWA⟩ : ∃ WA, WA = w10.alloc (.cells #[.int .i64 wy, .int .i64 0, .slice p10 ny c10] 29) := ⟨_, rfl⟩
      have hba : Below w10.heap.size w10 WA := by rw [hWA]; exact al_below _ _
      have g1 : WA.heap[w10.heap.size]? = some (.cells #[.int .i64 wy, .int .i64 0, .slice p10 ny c10] 29) := by rw [hWA]; exact heap_alloc_last _ _
      have z0 := cell_at (i := 0) g1 rfl
      have z1 := cell_at (i := 1) g1 rfl
      have z2 := cell_at (i := 2) g1 rfl
      rw [← hWA]
      replace x0 : WA.cell? ⟨w5.heap.size, 0, none⟩ = some (.int .i64 wy) := (hba.cell (p := ⟨w5.heap.size, 0, none⟩) hlt10).trans x0
      replace x1 : WA.cell? ⟨w5.heap.size, 1, none⟩ = some (.int .i64 0) := (hba.cell (p := ⟨w5.heap.size, 1, none⟩) hlt10).trans x1
      replace x2 : WA.cell? ⟨w5.heap.size, 2, none⟩ = some (.slice p4 ny c4) := (hba.cell (p := ⟨w5.heap.size, 2, none⟩) hlt10).trans x2
      have HBA : Hid (Below w.heap.size w WA) := HB10.out.trans (hba.mono HB10.out.size)
      have HGA : Hid (InW WA (.slice p4 ny c4) ox ∧ InW WA (.slice p10 ny c10) ox) := ⟨HG10.out.1.below hba, HG10.out.2.below hba⟩
      clear hWA hba g1
      refine (HEq.out _ _ _ HGA.out.2 HGA.out.1).mono ?_
      rintro e wb ⟨rfl, m, rfl⟩
      go_wp2
      go_ret
      exact ⟨rfl, HBA.out.trans ((drewN_bel WA _).mono HBA.out.size)⟩
end Go.Proofs.YtnfhpdbbfejioaaGreatDoor
