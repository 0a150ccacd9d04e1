/- RunTurns. -/
import Derived.Test.YtnfhpdbbfejioaaGreatDoorL46
import Derived.Test.YtnfhpdbbfejioaaGreatDoorM0
namespace Go.Proofs.YtnfhpdbbfejioaaGreatDoor
set_option linter.unusedVariables false
set_option linter.unusedSimpArgs false
open Go Go.RowKit

theorem no_input {s : List UInt8} (h : Lib.contains s inB = false) : ¬ inB <:+: s := by
  rintro ⟨a, b, e⟩
  have h' : ¬ 0 ≤ Lib.index s inB := of_decide_eq_false h
  rcases Lib.index_spec s inB with ⟨h1, h2⟩ | ⟨i, h1, _⟩
  · have := h2 a.length (by rw [← e]; simp)
    rw [← e] at this
    unfold Lib.occAt at this
    rw [List.append_assoc, List.drop_left] at this
    have h3 : List.isPrefixOf inB (inB ++ b) = true := by rw [List.isPrefixOf_iff_prefix]; exact List.prefix_append _ _
    rw [h3] at this
    cases this
  · omega
theorem cell_lt {w : World} {b o : Nat} {x : Value} (h : w.cell? ⟨b, o, none⟩ = some x) : b < w.heap.size := by
  rcases Nat.lt_or_ge b w.heap.size with h' | h'
  · exact h'
  · simp [World.cell?, Array.getElem?_eq_none h'] at h
theorem chk_nodup {L : List Fun} (hc : chk L = .ok true) : (L.map (·.nm)).Nodup := by
  unfold chk at hc
  obtain ⟨_, h1, hc⟩ := bx_ok hc
  exact ((twice_ok L []).1 h1).1
theorem run_li {L M : List Fun} (rf : ∀ F ∈ L, GoodF F ∧ RF F) (h12 : L.length ≤ 12) (hc : chk L = .ok true) (hp : L.Perm M) {inp : List Int} {a : Nat} (ha : a ≤ 1000000) {g : Nat} (hg : ∀ k, (rnV (g + k) L inp a).1 ≠ 99 ∧ rnV (g + k) L inp a = rnV g L inp a) {way code : Int} {out : List Int} {n : Nat} (hr : rnV g L inp a = (way, code, out)) (hn : n = out.length) (W : World) (v iv : Value) (hv : LiS (Lo W.heap.size) W v M) (hi : InW W iv inp) :
    Calls Tryz.prog 12 #[v, iv, .int .i64 (a : Int)] W (RnW way code out n W) := by
  have e2 := hg 2
  have hm : ∀ g, rnV g M inp a = rnV g L inp a := fun g => run_perm hp (chk_nodup hc) g inp a
  have := goes_any W v iv M hv (by rw [← hp.length_eq]; exact h12) (fun F hF => rf F (hp.symm.subset hF)) (chk_perm hp hc) inp hi a ha g (by rw [hm]; exact e2.1)
  rw [hm, e2.2, hr] at this
  refine this.mono ?_
  rintro e w' ⟨p, c, h1, h2, h3⟩
  subst hn
  refine ⟨p, c, h1, ?_, InW.of_own h2, h3⟩
  rcases h2.2 with ⟨e, h0⟩ | ⟨g', cap, cur, e, _, _, hle, _⟩
  · have h0' : out.length = 0 := h0
    omega
  · injection e with _ _ e3
    rw [e3]
    exact hle
theorem chk_nil : ¬ chk ([] : List Fun) = .ok true := by
  intro h
  cases h
set_option maxRecDepth 100000 in
set_option maxHeartbeats 1000000 in
/-- Two ends that are the same. -/
theorem sameEnd_any (w : World) (wy cy : Int) (p q : Option Addr) (n c d : Nat) (l : List Int) (h1 : InW w (.slice p n c) l) (h2 : InW w (.slice q n d) l) (hl : l.length ≤ 100000) :
    Calls Tryz.prog 17 #[.agg #[.int .i64 wy, .int .i64 cy, .slice p n c], .agg #[.int .i64 wy, .int .i64 cy, .slice q n d]] w fun e w' => e = .returned (.bool true) ∧ Below w.heap.size w w' := by
  have HEq : Hid (∀ W v1 v2, InW W v1 l → InW W v2 l → Calls Tryz.prog 13 #[v1, v2] W fun e w' => e = .returned (.bool true) ∧ ∃ m, w' = W.drewN m) := fun W v1 v2 h1 h2 => equal_q W v1 v2 l h1 h2 (by omega)
  have HI : Hid (∀ W, Below w.heap.size w W → InW W (.slice p n c) l ∧ InW W (.slice q n d) l) := fun W hb => ⟨h1.below hb, h2.below hb⟩
  clear h1 h2 hl
  go_enter Tryz.func17, Tryz.ntmps17
  go_wp2_with (go_at_call 13; fail)
  have hb : Below w.heap.size w ((w.alloc (.cells #[.int .i64 wy, .int .i64 cy, .slice p n c] 29)).alloc (.cells #[.int .i64 wy, .int .i64 cy, .slice q n d] 29)) := bel2 _ _ _
  refine (HEq.out _ _ _ (HI.out _ hb).1 (HI.out _ hb).2).mono ?_
  rintro e wb ⟨rfl, m, rfl⟩
  have HB : Hid (Below w.heap.size w (((w.alloc (.cells #[.int .i64 wy, .int .i64 cy, .slice p n c] 29)).alloc (.cells #[.int .i64 wy, .int .i64 cy, .slice q n d] 29)).drewN m)) := hb.trans ((drewN_bel _ m).mono hb.size)
  clear hb
  go_wp2
  go_ret
  exact ⟨rfl, HB.out⟩
set_option maxRecDepth 100000 in
set_option maxHeartbeats 8000000 in
theorem rturns_any (w : World) (he : EnvW 14 w) (hm : ∃ m, w.cell? ⟨2, 0, none⟩ = some (.int .i64 m)) (s : ByteArray) (iv : Value) (inp : List Int) (hin : InW w iv inp) (ov : Value) (oth : List Int) (hot : InW w ov oth) (by' : Int) :
    Calls Tryz.prog 5 #[.string s, iv, ov, .int .i64 by'] w fun e w' => e = .returned (.bool true) ∧ Below w.heap.size w w' := by
  obtain ⟨qi, ci, rfl, -⟩ := id hin
  obtain ⟨qo, co, rfl, -⟩ := id hot
  by_cases h20 : 20 < inp.length
  · have h20' : (20 : Int) < inp.length := by omega
    clear he hin hot hm
    go_enter Tryz.func5, Tryz.ntmps5
    go_wp2
    go_ret
    exact ⟨rfl, Below.refl _ _⟩
  have h20' : ¬ (20 : Int) < inp.length := by omega
  by_cases o20 : 20 < oth.length
  · have o20' : (20 : Int) < oth.length := by omega
    clear he hin hot hm
    go_enter Tryz.func5, Tryz.ntmps5
    go_wp2
    go_ret
    exact ⟨rfl, Below.refl _ _⟩
  have o20' : ¬ (20 : Int) < oth.length := by omega
  have HD : Hid (Calls Tryz.prog 9 #[] w fun e w' => e = .returned (.bool true) ∧ Below w.heap.size w w') := goes_ok w he
  have HE : Hid (∀ w', Below w.heap.size w w' → EnvW 14 w') := fun w' hb => he.below hb
  have HIn : Hid (∀ w', Below w.heap.size w w' → InW w' (.slice qi inp.length ci) inp) := fun w' hb => hin.below hb
  have HOt : Hid (∀ w', Below w.heap.size w w' → InW w' (.slice qo oth.length co) oth) := fun w' hb => hot.below hb
  have HM : Hid (∀ w', Below w.heap.size w w' → ∃ m, w'.cell? ⟨2, 0, none⟩ = some (.int .i64 m)) := fun w' hb => by
    obtain ⟨m, hm⟩ := hm
    exact ⟨m, (hb.cell (p := ⟨2, 0, none⟩) (cell_lt hm)).trans hm⟩
  obtain ⟨ni, hni⟩ : ∃ ni, ni = inp.length := ⟨_, rfl⟩
  obtain ⟨no, hno⟩ : ∃ no, no = oth.length := ⟨_, rfl⟩
  rw [← hni] at HIn h20' ⊢
  rw [← hno] at HOt o20' ⊢
  clear he hin hot hni hno h20 o20 hm
  go_enter Tryz.func5, Tryz.ntmps5
  go_wp2_with (first | (go_at_call 9; refine HD.out.mono ?_; rintro e w1 ⟨rfl, hb⟩; have HB : Hid (Below w.heap.size w w1) := hb; clear hb) | (go_at_call 10; fail))
  refine (right_any w1 (HE.out _ HB.out) s).mono ?_
  rintro e w2 ⟨hb, ⟨q, n, c, rfl⟩ | ⟨q, c, L, rfl, hsz, hp, hck, hg⟩⟩
  · have HB2 : Hid (Below w.heap.size w w2) := HB.out.trans (hb.mono HB.out.size)
    clear hb
    go_wp2
    go_ret
    exact ⟨rfl, HB2.out⟩
  · have HB2 : Hid (Below w.heap.size w w2) := HB.out.trans (hb.mono HB.out.size)
    have HL : Hid (s.data.toList.length ≤ 1000000 ∧ parseV s.data.toList = .ok (chain (L.map Fun.tr)) ∧ chk L = .ok true) := ⟨by omega, hp, hck⟩
    obtain ⟨n, hn⟩ : ∃ n, n = L.length := ⟨_, rfl⟩
    have HG : Hid (Got w2 (.slice q n c) L) := by rw [hn]; exact hg
    have HN : Hid (n = L.length) := hn
    have hpos : 0 < n := by
      rcases Nat.eq_zero_or_pos n with h | h
      · have h0 : L = [] := List.eq_nil_of_length_eq_zero (by omega)
        rw [h0] at hck
        exact absurd hck chk_nil
      · exact h
    have h12 : n ≤ 12 := by rw [hn]; exact (read_rf HL.out.1 hp).2
    rw [← hn]
    clear hb hsz hp hck hg hn
    go_wp2_with (go_at_call 11; fail)
    refine (rpick_any _ _ (by omega) (by omega) _).mono ?_
    rintro e w3 ⟨k, hk, rfl, rfl⟩
    have hkn : k < n := by omega
    go_wp2_with fail
    obtain ⟨zs, ez, hr, hok⟩ := got_z HG.out
    have hzn : zs.length = n := by rw [HN.out, ← ez, List.length_map]
    rw [hzn] at hr
    obtain ⟨g, c', cur, ev, _, hg, hc1, hc2, hc3, hc4⟩ : ∃ g cap cur, Value.slice q n c = .slice (some ⟨g, 0, none⟩) n cap ∧ 0 ≤ g ∧ w3.heap[g]? = some (.cells cur 86 (0, 0)) ∧ n ≤ cap ∧ cap ≤ maxLen ∧ cur.size = cap * 4 ∧ cur.toList.take (n * 4) = zC zs := by
      rcases hr.2 with ⟨_, h0⟩ | h
      · omega
      · exact h
    injection ev with e1 e2 e3
    subst e1
    subst e3
    clear e2
    have hgl : g < w3.heap.size := (Array.getElem?_eq_some_iff.1 hg).1
    have hcell : ∀ (W : World), W.heap[g]? = w3.heap[g]? → ∀ (i : Nat) (x : Value), (zC zs)[i]? = some x → W.cell? ⟨g, i, none⟩ = some x := fun W hW i x hx => by
      rw [cell_of_row W g i cur 86 (0, 0) (by rw [hW]; exact hg)]
      rw [← hc4, List.getElem?_take] at hx
      split at hx
      · simpa using hx
      · cases hx
    have HN1 : Hid (∀ (W : World), W.heap[g]? = w3.heap[g]? → ∀ (i : Nat) (x : Value), (zC (zs.drop k))[i]? = some x → W.cell? ((⟨g, k * 4, none⟩ : Addr).add i) = some x) := fun W hW i x hx => by
      rw [← (zC_drop zs k (by omega)).1, List.getElem?_drop] at hx
      rw [show (⟨g, k * 4, none⟩ : Addr).add i = ⟨g, k * 4 + i, none⟩ by unfold Addr.add; split <;> simp_all]
      exact hcell W hW _ x hx
    have HN2 : Hid (∀ (W : World), W.heap[g]? = w3.heap[g]? → ∀ (i : Nat) (x : Value), (zC (zs.take k))[i]? = some x → W.cell? ((⟨g, 0, none⟩ : Addr).add i) = some x) := fun W hW i x hx => by
      rw [← (zC_drop zs k (by omega)).2, List.getElem?_take] at hx
      rw [add_plain']
      split at hx
      · exact hcell W hW _ x hx
      · cases hx
    have HL1 : Hid ((zC (zs.drop k)).length = (n - k) * 4) := by show _ = _; rw [zC_len, List.length_drop, hzn]
    have HL2 : Hid ((zC (zs.take k)).length = k * 4) := by show _ = _; rw [zC_len, List.length_take, hzn, Nat.min_eq_left (by omega)]
    have HO1 : Hid (∀ u ∈ zC (zs.drop k), u.oneCell' = true) := zC_one fun z hz => hok z (List.mem_of_mem_drop hz)
    have HO2 : Hid (∀ u ∈ zC (zs.take k), u.oneCell' = true) := zC_one fun z hz => hok z (List.mem_of_mem_take hz)
    have HOk : Hid (∀ z ∈ zs, Zok Everywhere w3 z) := hok
    have HEz : Hid (zs.map (·.1) = L) := ez
    have HZn : Hid (zs.length = n) := hzn
    have HGl : Hid (g < w3.heap.size) := hgl
    have HRow : Hid (∀ W : World, W.heap[w3.heap.size]? = some (.cells #[] 86 (0, 0)) → W.ownsRow w3.heap.size 86 4 (.slice (some ⟨w3.heap.size, 0, none⟩) 0 0) 0 []) := fun W hW => ⟨rfl, .inr ⟨w3.heap.size, 0, #[], rfl, Nat.le_refl _, hW, Nat.le_refl _, by decide, rfl, rfl⟩⟩
    have hsf : ∀ W, (Instr.slice 24 (.slice (some ⟨g, 0, none⟩) n c) (some (.int .i64 (k : Int))) none none).run Tryz.prog W = .ok (.slice (some ⟨g, k * 4, none⟩) (n - k) (c - k)) W := fun W => slice_from g n c k W (by omega) (by omega)
    have hst : ∀ W, (Instr.slice 24 (.slice (some ⟨g, 0, none⟩) n c) none (some (.int .i64 (k : Int))) none).run Tryz.prog W = .ok (.slice (some ⟨g, 0, none⟩) k c) W := fun W => slice_to g n c k W (by omega)
    clear ez hr hok hzn hg hc1 hc2 hc3 hc4 hgl hcell
    obtain ⟨g1, hg1⟩ := run_ends L inp 200
    have hgx : ∀ k, (rnV (g1 + k) L inp 200).1 ≠ 99 ∧ rnV (g1 + k) L inp 200 = rnV g1 L inp 200 := hg1
    obtain ⟨wx, cx, ox, hrx⟩ : ∃ way code out, rnV g1 L inp 200 = (way, code, out) := ⟨_, _, _, rfl⟩
    obtain ⟨nx, hnx⟩ : ∃ nx, nx = ox.length := ⟨_, rfl⟩
    have hmx : ox.length ≤ 200 := by have := run_max g1 L inp 200; rw [hrx] at this; exact this
    have HRx : Hid (∀ W v iv, Got W v L → InW W iv inp → Calls Tryz.prog 12 #[v, iv, .int .i64 200] W (RnW wx cx ox nx W)) := fun W v iv hv hi => run_to (a := 200) HL.out.1 HL.out.2.1 HL.out.2.2 (by omega) hgx hrx hnx W v iv hv hi
    have HRt : Hid (∀ W v iv M, L.Perm M → LiS (Lo W.heap.size) W v M → InW W iv inp → Calls Tryz.prog 12 #[v, iv, .int .i64 200] W (RnW wx cx ox nx W)) := fun W v iv M hpm hv hi => by
      have rf := read_rf HL.out.1 HL.out.2.1
      exact run_li rf.1 rf.2 HL.out.2.2 hpm (by omega) hgx hrx hnx W v iv hv hi
    have HSe : Hid (∀ W p q c d, InW W (.slice p nx c) ox → InW W (.slice q nx d) ox → Calls Tryz.prog 17 #[.agg #[.int .i64 wx, .int .i64 cx, .slice p nx c], .agg #[.int .i64 wx, .int .i64 cx, .slice q nx d]] W fun e w' => e = .returned (.bool true) ∧ Below W.heap.size W w') := fun W p q c d h1 h2 => sameEnd_any W wx cx p q nx c d ox h1 h2 (by omega)
    have HCt : Hid (∀ W, Below w.heap.size w W → Calls Tryz.prog 18 #[.string s, .string ⟨#[105, 110, 112, 117, 116]⟩] W fun e w' => e = .returned (.bool (Lib.contains s.data.toList inB)) ∧ w' = W) := fun W hb => by
      obtain ⟨m, hm⟩ := HM.out W hb
      exact Tryz.strings_Contains s ⟨#[105, 110, 112, 117, 116]⟩ m W (by have := HL.out.1; rw [j_len] at this; omega) hm
    have HRo : Hid (Lib.contains s.data.toList inB = false → ∀ W v iv, Got W v L → InW W iv oth → Calls Tryz.prog 12 #[v, iv, .int .i64 200] W (RnW wx cx ox nx W)) := fun hc W v iv hv hi => by
      have hdf : ∀ g, rnV g L oth 200 = rnV g L inp 200 := fun g => run_deaf_text HL.out.2.1 (no_input hc) g inp oth 200
      exact run_to (a := 200) HL.out.1 HL.out.2.1 HL.out.2.2 (by omega) (g := g1) (fun k => by rw [hdf, hdf]; exact hgx k) (by rw [hdf]; exact hrx) hnx W v iv hv hi
    clear hg1 hgx hrx hnx hmx
    go_region_law (first
      | (refine step_append_z rfl (.tmp 35) (.tmp 38) rfl w3.heap.size w3.heap.size 0 0 [] (by simp [Act.eval]) (HRow.out _ (by first | exact heap_alloc_last w3 _ | simp)) ⟨g, k * 4, none⟩ (n - k) (c - k) (zC (zs.drop k)) (by simp [Act.eval]) HL1.out (HN1.out _ (Below.heap_alloc w3 _ g HGl.out)) HO1.out (by omega) (by simp) ?_; intro g5 cap5 w5 hown5 hb5; have HO5 : Hid (w5.ownsRow w3.heap.size 86 4 (.slice (some ⟨g5, 0, none⟩) (0 + (n - k)) cap5) (0 + (n - k)) ([] ++ zC (zs.drop k))) := hown5; have HB5 : Hid (Below w3.heap.size w3 w5) := (((Below.refl _ _).alloc (Nat.le_refl _) _).drew.trans hb5); clear hown5 hb5)
      | (refine step_append_z rfl (.tmp 39) (.tmp 42) rfl w3.heap.size g5 (0 + (n - k)) cap5 ([] ++ zC (zs.drop k)) (by simp [Act.eval]) HO5.out ⟨g, 0, none⟩ k c (zC (zs.take k)) (by simp [Act.eval]) HL2.out (HN2.out _ (HB5.out.block g HGl.out)) HO2.out (by omega) HB5.out.size ?_; intro g6 cap6 w6 hown6 hb6; have HO6 : Hid (w6.ownsRow w3.heap.size 86 4 (.slice (some ⟨g6, 0, none⟩) (0 + (n - k) + k) cap6) (0 + (n - k) + k) ([] ++ zC (zs.drop k) ++ zC (zs.take k))) := hown6; have HB6 : Hid (Below w3.heap.size w3 w6) := HB5.out.trans hb6; clear hown6 hb6))
    have hlen6 : (zs.drop k ++ zs.take k).length = n - k + k := by rw [List.length_append, List.length_drop, List.length_take, HZn.out, Nat.min_eq_left (by omega)]
    have hmem6 : ∀ z ∈ zs.drop k ++ zs.take k, z ∈ zs := fun z hz => by
      rcases List.mem_append.1 hz with h | h
      · exact List.mem_of_mem_drop h
      · exact List.mem_of_mem_take h
    have hperm : L.Perm ((zs.drop k ++ zs.take k).map (·.1)) := by
      rw [← HEz.out]
      refine List.Perm.map _ ?_
      have := (List.perm_append_comm (l₁ := zs.take k) (l₂ := zs.drop k))
      rwa [List.take_append_drop] at this
    have hzk : ∀ W, Below w3.heap.size w3 W → ∀ z ∈ zs, Zok (Lo W.heap.size) W z := fun W hb z hz => ((((HOk.out z hz).mono (S' := Lo w3.heap.size) (fun b _ hb => hb)).kept (lo_keeps hb)).mono fun b _ hb => hb)
    have hrow : RowS (Lo w6.heap.size) w6 86 4 (.slice (some ⟨g6, 0, none⟩) (n - k + k) cap6) (zs.drop k ++ zs.take k).length (zC (zs.drop k ++ zs.take k)) := by
      have hown6 := HO6.out
      rw [Nat.zero_add, List.nil_append, ← zC_app] at hown6
      rw [hlen6]
      exact ⟨own_mono hown6 (Nat.zero_le _), fun i hi => own_lt hown6 i hi⟩
    obtain ⟨vt, hvt⟩ : ∃ vt : Value, vt = .slice (some ⟨g6, 0, none⟩) (n - k + k) cap6 := ⟨_, rfl⟩
    have HRt6 : Hid (∀ W, Below w6.heap.size w6 W → Calls Tryz.prog 12 #[vt, .slice qi ni ci, .int .i64 200] W (RnW wx cx ox nx W)) := fun W hb => by
      have hbw : Below w3.heap.size w3 W := HB6.out.trans (hb.mono HB6.out.size)
      refine HRt.out W _ _ _ hperm ?_ (HIn.out _ (HB2.out.trans (hbw.mono HB2.out.size)))
      rw [hvt]
      exact li_z ((hrow.kept (lo_keeps hb) (by decide)).mono fun b _ hb => hb) fun z hz => hzk W hbw z (hmem6 z hz)
    have HW6 : Hid (Below w.heap.size w w6) := HB2.out.trans (HB6.out.mono HB2.out.size)
    have HG6 : Hid (∀ W, Below w6.heap.size w6 W → Got W (.slice (some ⟨g, 0, none⟩) n c) L) := fun W hb => HG.out.below (HB6.out.trans (hb.mono HB6.out.size))
    rw [← hvt]
    clear hlen6 hmem6 hperm hzk hrow HO6 HO5 HN1 HN2 HL1 HL2 HO1 HO2 HRow hsf hst HD HOk HRt HB5 HB6 HGl hvt
    go_wp2_with (go_at_call 12; fail)
    refine (HRx.out _ _ _ (HG6.out _ (Below.refl _ _)) (HIn.out _ HW6.out)).mono ?_
    rintro e w7 ⟨p7, c7, rfl, hc7, hi7, hb7⟩
    have HB7 : Hid (Below w6.heap.size w6 w7) := hb7
    have HI7 : Hid (InW w7 (.slice p7 nx c7) ox) := hi7
    clear hc7 hi7 hb7
    go_wp2_with fail
    obtain ⟨W8, hW8⟩ : ∃ W8, W8 = w7.alloc (.cells #[.int .i64 wx, .int .i64 cx, .slice p7 nx c7] 29) := ⟨_, rfl⟩
    have hb8 : Below w7.heap.size w7 W8 := by rw [hW8]; exact al_below _ _
    have g1 : W8.heap[w7.heap.size]? = some (.cells #[.int .i64 wx, .int .i64 cx, .slice p7 nx c7] 29) := by rw [hW8]; exact heap_alloc_last _ _
    rw [← hW8]
    have HX : Hid (∀ W, Below W8.heap.size W8 W → W.cell? ⟨w7.heap.size, 0, none⟩ = some (.int .i64 wx) ∧ W.cell? ⟨w7.heap.size, 1, none⟩ = some (.int .i64 cx) ∧ W.cell? ⟨w7.heap.size, 2, none⟩ = some (.slice p7 nx c7) ∧ InW W (.slice p7 nx c7) ox) := fun W hb => by
      have hl : w7.heap.size < W8.heap.size := (Array.getElem?_eq_some_iff.1 g1).1
      have g2 : W.heap[w7.heap.size]? = some (.cells #[.int .i64 wx, .int .i64 cx, .slice p7 nx c7] 29) := by rw [hb.block _ hl]; exact g1
      exact ⟨cell_at (i := 0) g2 rfl, cell_at (i := 1) g2 rfl, cell_at (i := 2) g2 rfl, (HI7.out.below hb8).below hb⟩
    have HB8 : Hid (Below w6.heap.size w6 W8) := HB7.out.trans (hb8.mono HB7.out.size)
    have HRt8 : Hid (∀ W, Below W8.heap.size W8 W → Calls Tryz.prog 12 #[vt, .slice qi ni ci, .int .i64 200] W fun e w' => ∃ p c, e = .returned (.agg #[.int .i64 wx, .int .i64 cx, .slice p nx c]) ∧ Hid (InW w' (.slice p nx c) ox) ∧ Hid (Below W8.heap.size W8 w')) := fun W hb => (HRt6.out W (HB8.out.trans (hb.mono HB8.out.size))).mono fun e w' hp => by
      obtain ⟨p, c, h1, _, h2, h3⟩ := hp
      exact ⟨p, c, h1, h2, hb.trans (h3.mono hb.size)⟩
    have HSe8 : Hid (∀ W p c, Below W8.heap.size W8 W → InW W (.slice p nx c) ox → Calls Tryz.prog 17 #[.agg #[.int .i64 wx, .int .i64 cx, .slice p nx c], .agg #[.int .i64 wx, .int .i64 cx, .slice p7 nx c7]] W fun e w' => e = .returned (.bool true) ∧ Hid (Below W8.heap.size W8 w')) := fun W p c hb hi => (HSe.out W p p7 c c7 hi (HX.out W hb).2.2.2).mono fun e w' hp => ⟨hp.1, hb.trans (hp.2.mono hb.size)⟩
    have HRo8 : Hid (Lib.contains s.data.toList inB = false → ∀ W, Below W8.heap.size W8 W → Calls Tryz.prog 12 #[.slice (some ⟨g, 0, none⟩) n c, .slice qo no co, .int .i64 200] W fun e w' => ∃ p c, e = .returned (.agg #[.int .i64 wx, .int .i64 cx, .slice p nx c]) ∧ Hid (InW w' (.slice p nx c) ox) ∧ Hid (Below W8.heap.size W8 w')) := fun hcf W hb => by
      have hb6 : Below w6.heap.size w6 W := HB8.out.trans (hb.mono HB8.out.size)
      refine (HRo.out hcf W _ _ (HG6.out W hb6) (HOt.out W (HW6.out.trans (hb6.mono HW6.out.size)))).mono fun e w' hp => ?_
      obtain ⟨p, c, h1, _, h2, h3⟩ := hp
      exact ⟨p, c, h1, h2, hb.trans (h3.mono hb.size)⟩
    have HW8 : Hid (Below w.heap.size w W8) := HW6.out.trans (HB8.out.mono HW6.out.size)
    have HCt8 : Hid (∀ W, Below W8.heap.size W8 W → Calls Tryz.prog 18 #[.string s, .string ⟨#[105, 110, 112, 117, 116]⟩] W fun e w' => e = .returned (.bool (Lib.contains s.data.toList inB)) ∧ w' = W) := fun W hb => HCt.out W (HW8.out.trans (hb.mono HW8.out.size))
    have x0 := (HX.out _ (Below.refl _ _)).1
    have x1 := (HX.out _ (Below.refl _ _)).2.1
    have x2 := (HX.out _ (Below.refl _ _)).2.2.1
    clear hW8 hb8 g1 HRt6 HG6 HRo HCt HSe HRx HB8 HB7 HI7 HW6
    go_region_with (first
      | (go_at_call 12; refine (HRt8.out _ (by first | exact Below.refl _ _ | exact (Below.refl _ _).drew)).mono ?_; rintro e w9 ⟨p9, c9, rfl, hi9, hb9⟩; have x0' := (HX.out _ hb9.out).1; have x1' := (HX.out _ hb9.out).2.1; have x2' := (HX.out _ hb9.out).2.2.1)
      | (go_at_call 17; refine (HSe8.out _ _ _ hb9.out hi9.out).mono ?_; rintro e wA ⟨rfl, hbA⟩))
    all_goals (
      clear x0 x1 x2 x0' x1' x2'
      have y0 := (HX.out _ hbA.out).1
      have y1 := (HX.out _ hbA.out).2.1
      have y2 := (HX.out _ hbA.out).2.2.1
      cases hcb : Lib.contains s.data.toList inB with
      | true =>
        rw [hcb] at HCt8
        clear hcb HRo8 HRt8
        go_wp2_with fail
        have HCt9 : Hid (∀ m, Calls Tryz.prog 18 #[.string s, .string ⟨#[105, 110, 112, 117, 116]⟩] (wA.drewN m) fun e w' => e = .returned (.bool true) ∧ ∃ k, w' = (wA.drewN m).drewN k) := fun m => (HCt8.out _ (hbA.out.trans ((drewN_bel wA m).mono hbA.out.size))).mono fun e w' hp => ⟨hp.1, 0, hp.2⟩
        go_quiet ((go_at_call 18; exact Calls.quiet_of (HCt9.out _)))
        all_goals (
          go_wp2
          go_ret
          exact ⟨rfl, HW8.out.trans ((hbA.out.trans ((drewN_bel wA _).mono hbA.out.size)).mono HW8.out.size)⟩)
      | false =>
        have HRo9 : Hid (∀ W, Below W8.heap.size W8 W → Calls Tryz.prog 12 #[.slice (some ⟨g, 0, none⟩) n c, .slice qo no co, .int .i64 200] W fun e w' => ∃ p c, e = .returned (.agg #[.int .i64 wx, .int .i64 cx, .slice p nx c]) ∧ Hid (InW w' (.slice p nx c) ox) ∧ Hid (Below W8.heap.size W8 w')) := HRo8.out hcb
        rw [hcb] at HCt8
        clear hcb HRo8 HRt8
        go_wp2_with fail
        go_region_with (first
          | (go_at_call 18; refine (HCt8.out _ (by first | exact hbA.out | exact hbA.out.drew)).mono ?_; rintro e wB ⟨rfl, rfl⟩)
          | (go_at_call 12; refine (HRo9.out _ (by first | exact hbA.out | exact hbA.out.drew)).mono ?_; rintro e wC ⟨pC, cC, rfl, hiC, hbC⟩; have z0 := (HX.out _ hbC.out).1; have z1 := (HX.out _ hbC.out).2.1; have z2 := (HX.out _ hbC.out).2.2.1)
          | (go_at_call 17; refine (HSe8.out _ _ _ hbC.out hiC.out).mono ?_; rintro e wD ⟨rfl, hbD⟩))
        all_goals (
          go_wp2
          go_ret
          exact ⟨rfl, HW8.out.trans (hbD.out.mono HW8.out.size)⟩))
end Go.Proofs.YtnfhpdbbfejioaaGreatDoor

