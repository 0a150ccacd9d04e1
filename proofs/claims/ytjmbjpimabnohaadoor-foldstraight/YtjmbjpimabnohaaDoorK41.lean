/- GZ -/
import Derived.Test.YtjmbjpimabnohaaDoorK40
namespace Go.Proofs.YtjmbjpimabnohaaDoor.Mid
set_option linter.unusedVariables false
set_option linter.unusedSimpArgs false
open Go Go.RowKit
theorem inW_at {w : World} {q : Option Addr} {n c : Nat} {l : List Int} (h : InW w (.slice q n c) l) (hn : l.length = n) (j : Nat) (hj : j < n) : ∃ g o, q = some ⟨g, o, none⟩ ∧ ∀ W, Below w.heap.size w W → W.cell? ⟨g, o + j, none⟩ = some (.int .i64 (l.getD j 0)) := by
  obtain ⟨q', c', e, h⟩ := h
  cases e
  rcases h with rfl | ⟨g, o, e, hg, _, hx⟩
  · simp at hj
  · refine ⟨g, o, e, fun W hb => ?_⟩
    rw [hb.cell (p := ⟨g, o + j, none⟩) hg]
    exact hx j _ (by rw [List.getElem?_eq_getElem (by omega)]; simp [List.getD_eq_getElem?_getD, List.getElem?_eq_getElem (show j < l.length by omega)])
theorem i64z : I64 (0 : Int) := ⟨by decide, by decide⟩
theorem lw_i64 {w1 wr : World} {l : List Ms} {vals : List Int} (h : LwT w1 l vals wr) (j : Nat) : I64 (vals.getD j 0) := by
  rw [List.getD_eq_getElem?_getD]
  cases e : vals[j]? with
  | none => exact i64z
  | some x => exact h.lg.i64 x (List.mem_of_getElem? e)
theorem mk12_copy : ∀ k : Fin 11, (mk12 k.val == [99, 111, 112, 121]) = false := by decide +kernel
def LwI (w w1 : World) (lo hi : Nat) (wr : World) : Prop := ∃ l vals, LwT w1 l vals wr ∧ lo ≤ vals.length ∧ vals.length ≤ hi ∧ Below w.heap.size w wr
structure GvI (w : World) (qn qo qw : Option Addr) (nn no nw : Nat) (nums ops which : List Int) : Prop where
  n : ∀ j, j < nn → ∃ g o, qn = some ⟨g, o, none⟩ ∧ ∀ W, Below w.heap.size w W → W.cell? ⟨g, o + j, none⟩ = some (.int .i64 (nums.getD j 0))
  i : ∀ j, I64 (nums.getD j 0)
  o : ∀ j, j < no → ∃ g o, qo = some ⟨g, o, none⟩ ∧ ∀ W, Below w.heap.size w W → W.cell? ⟨g, o + j, none⟩ = some (.int .i64 (ops.getD j 0))
  w : ∀ j, j < nw → ∃ g o, qw = some ⟨g, o, none⟩ ∧ ∀ W, Below w.heap.size w W → W.cell? ⟨g, o + j, none⟩ = some (.int .i64 (which.getD j 0))
set_option maxRecDepth 100000 in
set_option maxHeartbeats 60000000 in
theorem straight_any (w : World) (qn qo qw : Option Addr) (cn co cw : Nat) (nums ops which : List Int) (hn : InW w (.slice qn nums.length cn) nums) (hI : ∀ x ∈ nums, I64 x) (ho : InW w (.slice qo ops.length co) ops) (hw : InW w (.slice qw which.length cw) which) (hff : FfE w) (hfm : FmE w) (hmk : MkE w) :
    Calls Tryd.prog 4 #[.slice qn nums.length cn, .slice qo ops.length co, .slice qw which.length cw] w (FdP w) := by
  obtain ⟨nn, hnn⟩ : ∃ n, nums.length = n := ⟨_, rfl⟩
  obtain ⟨no, hno⟩ : ∃ n, ops.length = n := ⟨_, rfl⟩
  obtain ⟨nw, hnw⟩ : ∃ n, which.length = n := ⟨_, rfl⟩
  rw [hnn] at hn
  rw [hno] at ho
  rw [hnw] at hw
  rw [hnn, hno, hnw]
  have HGv : Hid (GvI w qn qo qw nn no nw nums ops which) := ⟨inW_at hn hnn, fun j => by
    rw [List.getD_eq_getElem?_getD]
    cases e : nums[j]? with
    | none => exact i64z
    | some x => exact hI x (List.mem_of_getElem? e), inW_at ho hno, inW_at hw hnw⟩
  have HFo : Hid (Calls Tryd.prog 14 #[] w (FdP w)) := folded_14 w hff hfm hmk
  have HEn : Hid (FfE w ∧ FmE w ∧ MkE w) := ⟨hff, hfm, hmk⟩
  have HG0 : Hid (∀ W, Below w.heap.size w W → FdP w (.returned (.bool true)) W) := fun W hb => ⟨rfl, hb⟩
  generalize FdP w = G at HFo HG0 ⊢
  have HFo2 : Hid (Calls Tryd.prog 14 #[] w (FdP w)) := folded_14 w hff hfm hmk
  clear HFo
  clear hn hI ho hw hff hfm hmk hnn hno hnw
  have HXw : Hid (G (.returned (.bool true)) w) := HG0.out w (Below.refl _ _)
  go_enter Tryd.func4, Tryd.ntmps4
  by_cases h10 : 10 < nn
  · go_wp2
    exact HXw.out
  by_cases h20 : 20 < no
  · go_wp2
    exact HXw.out
  by_cases h40 : 40 < nw
  · go_wp2
    exact HXw.out
  go_wp2_with (go_at_call 14; fail)
  refine HFo2.out.mono ?_
  rintro e w1 ⟨rfl, hb1⟩
  obtain ⟨W2, hW2⟩ : ∃ W2, W2 = (w1.alloc (.cells #[.string yMain, .int .i64 0, .slice none 0 0, .slice none 0 0] 35)).alloc (.cells #[.slice none 0 0] 23) := ⟨_, rfl⟩
  have hL2 : LwT w1 [] [] W2 := by rw [hW2]; exact LwT.start w1
  have HB1 : Hid (Below w.heap.size w w1) := hb1
  have HW2 : Hid (LwI w w1 0 0 W2) := ⟨[], [], hL2, Nat.le_refl _, Nat.le_refl _, hb1.trans (hL2.bel.mono hb1.size)⟩
  clear hb1 hL2 HFo2 HXw
  go_wp2_with fail
  rw [← hW2]
  clear hW2
  go_loopw [10] (fun v wr => ∃ i : Nat, i ≤ nn ∧ v = .int .i64 i ∧ Hid (LwI w w1 i i wr)) (fun v _ => nn - (intOf v).toNat)
  case atStart => exact ⟨0, by omega, rfl, HW2.out⟩
  case round =>
    obtain ⟨i, hin, rfl, HI⟩ := hrel
    by_cases hlt : i < nn
    · obtain ⟨l, vals, hL, hlo, hhi, hbw⟩ := HI.out
      obtain ⟨g0, o0, rfl, hc0⟩ := HGv.out.n i hlt
      obtain ⟨x, hx⟩ : ∃ x, nums.getD i 0 = x := ⟨_, rfl⟩
      have hIx : I64 x := by rw [← hx]; exact HGv.out.i i
      have c1 : wr.cell? ⟨g0, o0 + i, none⟩ = some (.int .i64 x) := by rw [← hx]; exact hc0 wr hbw
      have c2 : wr.drew.cell? ⟨g0, o0 + i, none⟩ = some (.int .i64 x) := c1
      have HAd : Hid (∀ W, Below wr.heap.size wr W → Calls Tryd.prog 15 #[agS ⟨1, 0, 0, 0, 0, x, [], 0, [], []⟩, .int .i64 x, ptr w1.heap.size, ptr (w1.heap.size + 1)] W (fun e w' => e = .returned (.tuple #[]) ∧ LwI w w1 (i + 1) (i + 1) w')) := fun W hb => (lw_add (hL.below hb) (by omega) ⟨1, 0, 0, 0, 0, x, [], 0, [], []⟩ x ⟨rfl, rfl, rfl, Nat.zero_le _, hIx, i64z, i64z, i64z⟩ hIx (.inl ⟨rfl, rfl⟩)).mono (by
        rintro e w' ⟨rfl, l', h'⟩
        exact ⟨rfl, l', _, h', by simp; omega, by simp; omega, HB1.out.trans (h'.bel.mono HB1.out.size)⟩)
      clear hL hlo hhi hbw hc0 hx hIx HI
      go_wp2_with fail
      go_region_with (go_at_call 15; refine (HAd.out _ (Below.refl _ _).drew).mono ?_; rintro e w5 ⟨rfl, h5⟩; have H5 : Hid (LwI w w1 (i + 1) (i + 1) w5) := h5; clear h5)
      all_goals
        go_wp2
        exact ⟨⟨i + 1, by omega, by go_num, H5.out⟩, by simp [intOf]; omega⟩
    · obtain ⟨l, vals, hL, hlo, hhi, hbw⟩ := HI.out
      obtain ⟨q, cap, cv, _⟩ := hL.val
      rw [show vals.length = nn by omega] at cv
      have HAd : Hid (nn = 0 → Calls Tryd.prog 15 #[agS ⟨1, 0, 0, 0, 0, 5, [], 0, [], []⟩, .int .i64 5, ptr w1.heap.size, ptr (w1.heap.size + 1)] wr (fun e w' => e = .returned (.tuple #[]) ∧ LwI w w1 1 11 w')) := fun h0 => (lw_add hL (by omega) ⟨1, 0, 0, 0, 0, 5, [], 0, [], []⟩ 5 ⟨rfl, rfl, rfl, Nat.zero_le _, ⟨by decide, by decide⟩, i64z, i64z, i64z⟩ ⟨by decide, by decide⟩ (.inl ⟨rfl, rfl⟩)).mono (by
        rintro e w' ⟨rfl, l', h'⟩
        exact ⟨rfl, l', _, h', by simp, by simp; omega, HB1.out.trans (h'.bel.mono HB1.out.size)⟩)
      have HI2 : Hid (nn ≠ 0 → LwI w w1 1 11 wr) := fun h0 => ⟨l, vals, hL, by omega, by omega, hbw⟩
      clear hL hlo hhi hbw HI
      go_upto_if 56 with fail
      go_cut [6] from 56 to 59 (fun v wx => v = .bool false ∧ LwI w w1 1 11 wx)
      case first =>
        by_cases h0 : nn = 0
        · have ht0 : ((nn : Int) == 0) = true := by rw [h0]; rfl
          have H0 : Hid (nn = 0) := h0
          clear h0
          go_wp2_with (go_at_call 15; fail)
          refine (HAd.out H0.out).mono ?_
          rintro e w5 ⟨rfl, h5⟩
          have H5 : Hid (LwI w w1 1 11 w5) := h5
          clear h5 HAd HI2 cv ht0
          go_wp2_with fail
          go_meet
          exact ⟨rfl, H5.out⟩
        · have ht0 : ((nn : Int) == 0) = false := beq_eq_false_iff_ne.2 (by omega)
          have H5 : Hid (LwI w w1 1 11 wr) := HI2.out h0
          clear HAd HI2 h0
          go_wp2_with fail
          go_meet
          exact ⟨rfl, H5.out⟩
      case rest =>
        obtain ⟨rfl, h5⟩ := hcut
        have H5 : Hid (LwI w w1 1 11 wc) := h5
        clear h5 HAd HI2 cv hlt hin
        go_wp2_with fail
        go_loopw [11] (fun v wr => ∃ j : Nat, j ≤ no ∧ v = .int .i64 j ∧ Hid (LwI w w1 1 (11 + j) wr)) (fun v _ => no - (intOf v).toNat)
        case atStart => exact ⟨0, by omega, rfl, H5.out⟩
        case round =>
          obtain ⟨j, hjn, rfl, HJ⟩ := hrel
          by_cases hlt2 : j < no
          · obtain ⟨l, vals, hL, hlo, hhi, hbw⟩ := HJ.out
            obtain ⟨q, cap, cv, hq⟩ := hL.val
            obtain ⟨gv, rfl, hv⟩ := hq (by omega)
            obtain ⟨n, hn⟩ : ∃ n, vals.length = n := ⟨_, rfl⟩
            have HL : Hid (LwT w1 l vals wr ∧ vals.length = n ∧ Below w.heap.size w wr) := ⟨hL, hn, hbw⟩
            rw [hn] at cv hlo hhi hv
            have HVa : Hid (∀ W, Below wr.heap.size wr W → W.cell? ⟨w1.heap.size + 1, 0, none⟩ = some (.slice (some ⟨gv, 0, none⟩) n cap) ∧ ∀ k, k < n → W.cell? ⟨gv, k, none⟩ = some (.int .i64 (vals.getD k 0))) := fun W hb => ⟨by rw [hb.cell (p := ⟨w1.heap.size + 1, 0, none⟩) (cell_lt cv)]; exact cv, fun k hk => by rw [hb.cell (p := ⟨gv, k, none⟩) (cell_lt (hv k hk))]; exact hv k hk⟩
            clear hL hn hbw hv hq HJ
            obtain ⟨go, oo, rfl, hco⟩ := HGv.out.o j hlt2
            obtain ⟨xo, hxo⟩ : ∃ x, ops.getD j 0 = x := ⟨_, rfl⟩
            obtain ⟨ko, hko⟩ : ∃ k, pickN xo 12 = k := ⟨_, rfl⟩
            by_cases hw0 : 0 < nw
            · obtain ⟨k1, hk1⟩ : ∃ k, (2 * j) % nw = k := ⟨_, rfl⟩
              obtain ⟨k2, hk2⟩ : ∃ k, (2 * j + 1) % nw = k := ⟨_, rfl⟩
              have l1 : k1 < nw := by rw [← hk1]; exact Nat.mod_lt _ hw0
              have l2 : k2 < nw := by rw [← hk2]; exact Nat.mod_lt _ hw0
              have hm1 : (2 * (j : Int)).tmod (nw : Int) = (k1 : Int) := by rw [← hk1, show (2 * (j : Int)) = ((2 * j : Nat) : Int) by simp, ← Int.ofNat_tmod]
              have hm2 : (2 * (j : Int) + 1).tmod (nw : Int) = (k2 : Int) := by rw [← hk2, show (2 * (j : Int) + 1) = ((2 * j + 1 : Nat) : Int) by simp, ← Int.ofNat_tmod]
              obtain ⟨gw, ow, hqw, hc1⟩ := HGv.out.w k1 l1
              obtain ⟨gw2, ow2, e2, hc2⟩ := HGv.out.w k2 l2
              subst hqw
              cases e2
              obtain ⟨x1, hx1⟩ : ∃ x, which.getD k1 0 = x := ⟨_, rfl⟩
              obtain ⟨x2, hx2⟩ : ∃ x, which.getD k2 0 = x := ⟨_, rfl⟩
              have c1 : wr.cell? ⟨gw, ow + k1, none⟩ = some (.int .i64 x1) := by rw [← hx1]; exact hc1 wr HL.out.2.2
              have c2 : wr.cell? ⟨gw, ow + k2, none⟩ = some (.int .i64 x2) := by rw [← hx2]; exact hc2 wr HL.out.2.2
              obtain ⟨na, hna⟩ : ∃ k, pickN x1 n = k := ⟨_, rfl⟩
              obtain ⟨nb, hnb⟩ : ∃ k, pickN x2 n = k := ⟨_, rfl⟩
              have lna : na < n := by rw [← hna]; exact pickN_lt _ (by omega)
              have lnb : nb < n := by rw [← hnb]; exact pickN_lt _ (by omega)
              have HPa : Hid (∀ W, Calls Tryd.prog 16 #[.int .i64 x1, .int .i64 (n : Int)] W (fun e w' => e = .returned (.int .i64 (na : Int)) ∧ w' = W)) := fun W => by rw [← hna]; exact pick_16 W x1 n (by omega) (by omega)
              have HPb : Hid (∀ W, Calls Tryd.prog 16 #[.int .i64 x2, .int .i64 (n : Int)] W (fun e w' => e = .returned (.int .i64 (nb : Int)) ∧ w' = W)) := fun W => by rw [← hnb]; exact pick_16 W x2 n (by omega) (by omega)
              clear hna hnb hx1 hx2 hc1 hc2 hk1 hk2
              go_wp2_with fail
              go_quiet ((go_at_call 16; first | exact Calls.quiet_of_same (HPa.out _) | exact Calls.quiet_of_same (HPb.out _)))
              obtain ⟨W5, hW5⟩ : ∃ W5, W5 = wr.drewN nq := ⟨_, rfl⟩
              have hb5 : Below wr.heap.size wr W5 := by rw [hW5]; exact drewN_bel _ _
              rw [← hW5]
              clear c1 c2 cv hm1 hm2 l1 l2
              have hv5 := HVa.out W5 hb5
              have v0 := hv5.1
              have va := hv5.2 na lna
              have vb := hv5.2 nb lnb
              obtain ⟨xa, hxa⟩ : ∃ x, vals.getD na 0 = x := ⟨_, rfl⟩
              obtain ⟨xb, hxb⟩ : ∃ x, vals.getD nb 0 = x := ⟨_, rfl⟩
              have HX : Hid (vals.getD na 0 = xa ∧ vals.getD nb 0 = xb ∧ na < n ∧ nb < n) := ⟨hxa, hxb, lna, lnb⟩
              rw [hxa] at va
              rw [hxb] at vb
              have HL5 : Hid (LwT w1 l vals W5 ∧ Below w.heap.size w W5 ∧ vals.length = n ∧ n ≤ 11 + j ∧ j < no ∧ no ≤ 20) := ⟨HL.out.1.below hb5, HL.out.2.2.trans (hb5.mono HL.out.2.2.size), HL.out.2.1, hhi, hlt2, by omega⟩
              have co5 : W5.cell? ⟨go, oo + j, none⟩ = some (.int .i64 xo) := by rw [← hxo]; exact hco W5 HL5.out.2.1
              have HPo : Hid (∀ W, Calls Tryd.prog 16 #[.int .i64 xo, .int .i64 12] W (fun e w' => e = .returned (.int .i64 (ko : Int)) ∧ W = w')) := fun W => by
                rw [← hko]
                exact (pick_16 W xo 12 (by omega) (by omega)).mono (by rintro e w' ⟨rfl, rfl⟩; exact ⟨rfl, rfl⟩)
              have lko : ko < 12 := by rw [← hko]; exact pickN_lt _ (by omega)
              obtain ⟨y, hy⟩ : ∃ y : ByteArray, (⟨(mk12 ko).toArray⟩ : ByteArray) = y := ⟨_, rfl⟩
              have hix : ∀ W, (Instr.index 47 (.agg mkV12) (.int .i64 (ko : Int))).run Tryd.prog W = .ok (.string y) W := fun W => by rw [← hy]; exact ix12 ko lko W
              have HIa : Hid (I64 xa) := by show I64 xa; rw [← hxa]; exact lw_i64 HL.out.1 _
              clear hv5 hxa hxb hW5 hb5 HVa HL hco hxo
              by_cases hk11 : ko = 11
              · have hyb : (y.toList == [99, 111, 112, 121]) = true := by rw [← tl_eq, ← hy, hk11]; decide
                have HAd : Hid (Calls Tryd.prog 15 #[agS ⟨2, 0, (na : Int), 0, 0, 0, [], 0, [], []⟩, .int .i64 xa, ptr w1.heap.size, ptr (w1.heap.size + 1)] W5 (fun e w' => e = .returned (.tuple #[]) ∧ LwI w w1 1 (11 + (j + 1)) w')) := by
                  obtain ⟨h1, h2, h3, h4, h5, h6⟩ := HL5.out
                  obtain ⟨x1, x2, x3, x4⟩ := HX.out
                  refine (lw_add h1 (by omega) ⟨2, 0, (na : Int), 0, 0, 0, [], 0, [], []⟩ xa ⟨rfl, rfl, rfl, Nat.zero_le _, i64z, ⟨by show -9223372036854775808 ≤ (na : Int); omega, by show (na : Int) ≤ 9223372036854775807; omega⟩, i64z, i64z⟩ HIa.out (.inr (.inl ⟨rfl, by show (0 : Int) ≤ (na : Int); omega, by show (na : Int) < (vals.length : Int); omega, by show xa = vals.getD (na : Int).toNat 0; rw [Int.toNat_natCast]; exact x1.symm⟩))).mono ?_
                  rintro e w' ⟨rfl, l', h'⟩
                  exact ⟨rfl, l', _, h', by simp, by simp; omega, HB1.out.trans (h'.bel.mono HB1.out.size)⟩
                clear hy lko hko hk11 vb
                go_wp2_with (first | (go_at_call 16; refine (HPo.out _).mono ?_; rintro e w' ⟨rfl, rfl⟩) | (go_at_call 15; fail))
                refine HAd.out.mono ?_
                rintro e w6 ⟨rfl, h6⟩
                have H6 : Hid (LwI w w1 1 (11 + (j + 1)) w6) := h6
                clear h6
                go_wp2
                exact ⟨⟨j + 1, by omega, by go_num, H6.out⟩, by simp [intOf]; omega⟩
              · have hmk := mk12_mark ⟨ko, by omega⟩
                have hyb : (y.toList == [99, 111, 112, 121]) = false := by rw [← tl_eq, ← hy]; exact mk12_copy ⟨ko, by omega⟩
                have hyl : y.data.toList = mk12 ko := by rw [← hy]
                have HMk : Hid (markB (mk12 ko) = true ∧ (mk12 ko).length ≤ 1000) := ⟨hmk.1, hmk.2.1⟩
                have hyy : (⟨(mk12 ko).toArray⟩ : ByteArray) = y := hy
                obtain ⟨⟨r, way⟩, hbo⟩ : ∃ rw, bothV (mk12 ko) xa xb = rw := ⟨_, rfl⟩
                have HBv : Hid (bothV (mk12 ko) xa xb = (r, way)) := hbo
                have HYy : Hid ((⟨(mk12 ko).toArray⟩ : ByteArray) = y) := hy
                have HBo : Hid (∀ W, Calls Tryd.prog 7 #[.string y, .int .i64 xa, .int .i64 xb] W (fun e w' => e = .returned (.tuple #[.int .i64 r, .int .i64 way]) ∧ w' = W)) := fun W => by
                  have := both_any y xa xb W
                  rw [hyl] at this
                  refine this.mono ?_
                  rintro e w' ⟨rfl, rfl⟩
                  rw [hbo]
                  exact ⟨rfl, rfl⟩
                clear hmk hyl hyy hbo hy hko lko
                go_wp2_with (go_at_call 16; refine (HPo.out _).mono ?_; rintro e w' ⟨rfl, rfl⟩)
                go_quiet ((go_at_call 7; exact Calls.quiet_of_same (HBo.out _)))
                obtain ⟨W6, hW6⟩ : ∃ W6, W6 = W5.drewN nq := ⟨_, rfl⟩
                have hb6 : Below W5.heap.size W5 W6 := by rw [hW6]; exact drewN_bel _ _
                have HL6 : Hid (LwT w1 l vals W6 ∧ Below w.heap.size w W6) := ⟨HL5.out.1.below hb6, HL5.out.2.1.trans (hb6.mono HL5.out.2.1.size)⟩
                rw [← hW6]
                clear hW6 hb6 v0 va vb co5
                by_cases hway : way = 0
                · have HWy : Hid (way = 0) := hway
                  have HAd : Hid (Calls Tryd.prog 15 #[.agg #[.int .i64 3, .int .i64 0, .int .i64 (na : Int), .int .i64 (nb : Int), .int .i64 0, .int .i64 0, .string y, .int .i64 0, .string ⟨#[]⟩, .slice none 0 0], .int .i64 r, ptr w1.heap.size, ptr (w1.heap.size + 1)] W6 (fun e w' => e = .returned (.tuple #[]) ∧ LwI w w1 1 (11 + (j + 1)) w')) := by
                    obtain ⟨h1, h2, h3, h4, h5, h6⟩ := HL5.out
                    obtain ⟨x1, x2, x3, x4⟩ := HX.out
                    have hz : bothV (mk12 ko) xa xb = (r, 0) := by rw [HBv.out, HWy.out]
                    have hr : I64 r := by have := i64_both (op := mk12 ko) (b := xb) HIa.out; rw [hz] at this; exact this
                    rw [← HYy.out]
                    refine (lw_add HL6.out.1 (by omega) ⟨3, 0, (na : Int), ((nb : Nat) : Int), 0, 0, mk12 ko, 0, [], []⟩ r ⟨rfl, rfl, rfl, HMk.out.2, i64z, ⟨by show -9223372036854775808 ≤ (na : Int); omega, by show (na : Int) ≤ 9223372036854775807; omega⟩, ⟨by show -9223372036854775808 ≤ ((nb : Nat) : Int); omega, by show ((nb : Nat) : Int) ≤ 9223372036854775807; omega⟩, i64z⟩ hr (.inr (.inr ⟨rfl, by show (0 : Int) ≤ (na : Int); omega, by show (na : Int) < (vals.length : Int); omega, by show (0 : Int) ≤ ((nb : Nat) : Int); omega, by show ((nb : Nat) : Int) < (vals.length : Int); omega, HMk.out.1, by show bothV (mk12 ko) (vals.getD (na : Int).toNat 0) (vals.getD ((nb : Nat) : Int).toNat 0) = (r, 0); rw [Int.toNat_natCast, Int.toNat_natCast, x1, x2]; exact hz⟩))).mono ?_
                    rintro e w' ⟨rfl, l', h'⟩
                    exact ⟨rfl, l', _, h', by simp, by simp; omega, HB1.out.trans (h'.bel.mono HB1.out.size)⟩
                  subst hway
                  clear hyb hk11
                  go_wp2_with (go_at_call 15; fail)
                  refine HAd.out.mono ?_
                  rintro e w7 ⟨rfl, h7⟩
                  have H7 : Hid (LwI w w1 1 (11 + (j + 1)) w7) := h7
                  clear h7
                  go_wp2
                  exact ⟨⟨j + 1, by omega, by go_num, H7.out⟩, by simp [intOf]; omega⟩
                · have H7 : Hid (LwI w w1 1 (11 + (j + 1)) W6) := ⟨l, vals, HL6.out.1, by have := HX.out; have := HL5.out; omega, by have := HL5.out; omega, HL6.out.2⟩
                  clear hyb hk11
                  go_wp2
                  exact ⟨⟨j + 1, by omega, by go_num, H7.out⟩, by simp [intOf]; omega⟩
            · obtain ⟨na, hna⟩ : ∃ k, n - 1 = k := ⟨_, rfl⟩
              have lna : na < n := by omega
              have lnb : 0 < n := by omega
              have hnae : (n : Int) - 1 = (na : Int) := by omega
              go_upto_region 20 with fail
              obtain ⟨W5, hW5⟩ : ∃ W5, W5 = wr := ⟨_, rfl⟩
              have hb5 : Below wr.heap.size wr W5 := by rw [hW5]; exact Below.refl _ _
              rw [← hW5]
              clear cv hna hnae
              have hv5 := HVa.out W5 hb5
              have v0 := hv5.1
              have va := hv5.2 na lna
              have vb := hv5.2 0 lnb
              obtain ⟨xa, hxa⟩ : ∃ x, vals.getD na 0 = x := ⟨_, rfl⟩
              obtain ⟨xb, hxb⟩ : ∃ x, vals.getD 0 0 = x := ⟨_, rfl⟩
              have HX : Hid (vals.getD na 0 = xa ∧ vals.getD 0 0 = xb ∧ na < n ∧ 0 < n) := ⟨hxa, hxb, lna, lnb⟩
              rw [hxa] at va
              rw [hxb] at vb
              have HL5 : Hid (LwT w1 l vals W5 ∧ Below w.heap.size w W5 ∧ vals.length = n ∧ n ≤ 11 + j ∧ j < no ∧ no ≤ 20) := ⟨HL.out.1.below hb5, HL.out.2.2.trans (hb5.mono HL.out.2.2.size), HL.out.2.1, hhi, hlt2, by omega⟩
              have co5 : W5.cell? ⟨go, oo + j, none⟩ = some (.int .i64 xo) := by rw [← hxo]; exact hco W5 HL5.out.2.1
              have HPo : Hid (∀ W, Calls Tryd.prog 16 #[.int .i64 xo, .int .i64 12] W (fun e w' => e = .returned (.int .i64 (ko : Int)) ∧ W = w')) := fun W => by
                rw [← hko]
                exact (pick_16 W xo 12 (by omega) (by omega)).mono (by rintro e w' ⟨rfl, rfl⟩; exact ⟨rfl, rfl⟩)
              have lko : ko < 12 := by rw [← hko]; exact pickN_lt _ (by omega)
              obtain ⟨y, hy⟩ : ∃ y : ByteArray, (⟨(mk12 ko).toArray⟩ : ByteArray) = y := ⟨_, rfl⟩
              have hix : ∀ W, (Instr.index 47 (.agg mkV12) (.int .i64 (ko : Int))).run Tryd.prog W = .ok (.string y) W := fun W => by rw [← hy]; exact ix12 ko lko W
              have HIa : Hid (I64 xa) := by show I64 xa; rw [← hxa]; exact lw_i64 HL.out.1 _
              clear hv5 hxa hxb hW5 hb5 HVa HL hco hxo
              by_cases hk11 : ko = 11
              · have hyb : (y.toList == [99, 111, 112, 121]) = true := by rw [← tl_eq, ← hy, hk11]; decide
                have HAd : Hid (Calls Tryd.prog 15 #[agS ⟨2, 0, (na : Int), 0, 0, 0, [], 0, [], []⟩, .int .i64 xa, ptr w1.heap.size, ptr (w1.heap.size + 1)] W5 (fun e w' => e = .returned (.tuple #[]) ∧ LwI w w1 1 (11 + (j + 1)) w')) := by
                  obtain ⟨h1, h2, h3, h4, h5, h6⟩ := HL5.out
                  obtain ⟨x1, x2, x3, x4⟩ := HX.out
                  refine (lw_add h1 (by omega) ⟨2, 0, (na : Int), 0, 0, 0, [], 0, [], []⟩ xa ⟨rfl, rfl, rfl, Nat.zero_le _, i64z, ⟨by show -9223372036854775808 ≤ (na : Int); omega, by show (na : Int) ≤ 9223372036854775807; omega⟩, i64z, i64z⟩ HIa.out (.inr (.inl ⟨rfl, by show (0 : Int) ≤ (na : Int); omega, by show (na : Int) < (vals.length : Int); omega, by show xa = vals.getD (na : Int).toNat 0; rw [Int.toNat_natCast]; exact x1.symm⟩))).mono ?_
                  rintro e w' ⟨rfl, l', h'⟩
                  exact ⟨rfl, l', _, h', by simp, by simp; omega, HB1.out.trans (h'.bel.mono HB1.out.size)⟩
                clear hy lko hko hk11 vb
                go_wp2_with (first | (go_at_call 16; refine (HPo.out _).mono ?_; rintro e w' ⟨rfl, rfl⟩) | (go_at_call 15; fail))
                refine HAd.out.mono ?_
                rintro e w6 ⟨rfl, h6⟩
                have H6 : Hid (LwI w w1 1 (11 + (j + 1)) w6) := h6
                clear h6
                go_wp2
                exact ⟨⟨j + 1, by omega, by go_num, H6.out⟩, by simp [intOf]; omega⟩
              · have hmk := mk12_mark ⟨ko, by omega⟩
                have hyb : (y.toList == [99, 111, 112, 121]) = false := by rw [← tl_eq, ← hy]; exact mk12_copy ⟨ko, by omega⟩
                have hyl : y.data.toList = mk12 ko := by rw [← hy]
                have HMk : Hid (markB (mk12 ko) = true ∧ (mk12 ko).length ≤ 1000) := ⟨hmk.1, hmk.2.1⟩
                have hyy : (⟨(mk12 ko).toArray⟩ : ByteArray) = y := hy
                obtain ⟨⟨r, way⟩, hbo⟩ : ∃ rw, bothV (mk12 ko) xa xb = rw := ⟨_, rfl⟩
                have HBv : Hid (bothV (mk12 ko) xa xb = (r, way)) := hbo
                have HYy : Hid ((⟨(mk12 ko).toArray⟩ : ByteArray) = y) := hy
                have HBo : Hid (∀ W, Calls Tryd.prog 7 #[.string y, .int .i64 xa, .int .i64 xb] W (fun e w' => e = .returned (.tuple #[.int .i64 r, .int .i64 way]) ∧ w' = W)) := fun W => by
                  have := both_any y xa xb W
                  rw [hyl] at this
                  refine this.mono ?_
                  rintro e w' ⟨rfl, rfl⟩
                  rw [hbo]
                  exact ⟨rfl, rfl⟩
                clear hmk hyl hyy hbo hy hko lko
                go_wp2_with (go_at_call 16; refine (HPo.out _).mono ?_; rintro e w' ⟨rfl, rfl⟩)
                go_quiet ((go_at_call 7; exact Calls.quiet_of_same (HBo.out _)))
                obtain ⟨W6, hW6⟩ : ∃ W6, W6 = W5.drewN nq := ⟨_, rfl⟩
                have hb6 : Below W5.heap.size W5 W6 := by rw [hW6]; exact drewN_bel _ _
                have HL6 : Hid (LwT w1 l vals W6 ∧ Below w.heap.size w W6) := ⟨HL5.out.1.below hb6, HL5.out.2.1.trans (hb6.mono HL5.out.2.1.size)⟩
                rw [← hW6]
                clear hW6 hb6 v0 va vb co5
                by_cases hway : way = 0
                · have HWy : Hid (way = 0) := hway
                  have HAd : Hid (Calls Tryd.prog 15 #[.agg #[.int .i64 3, .int .i64 0, .int .i64 (na : Int), .int .i64 0, .int .i64 0, .int .i64 0, .string y, .int .i64 0, .string ⟨#[]⟩, .slice none 0 0], .int .i64 r, ptr w1.heap.size, ptr (w1.heap.size + 1)] W6 (fun e w' => e = .returned (.tuple #[]) ∧ LwI w w1 1 (11 + (j + 1)) w')) := by
                    obtain ⟨h1, h2, h3, h4, h5, h6⟩ := HL5.out
                    obtain ⟨x1, x2, x3, x4⟩ := HX.out
                    have hz : bothV (mk12 ko) xa xb = (r, 0) := by rw [HBv.out, HWy.out]
                    have hr : I64 r := by have := i64_both (op := mk12 ko) (b := xb) HIa.out; rw [hz] at this; exact this
                    rw [← HYy.out]
                    refine (lw_add HL6.out.1 (by omega) ⟨3, 0, (na : Int), ((0 : Nat) : Int), 0, 0, mk12 ko, 0, [], []⟩ r ⟨rfl, rfl, rfl, HMk.out.2, i64z, ⟨by show -9223372036854775808 ≤ (na : Int); omega, by show (na : Int) ≤ 9223372036854775807; omega⟩, ⟨by show -9223372036854775808 ≤ ((0 : Nat) : Int); omega, by show ((0 : Nat) : Int) ≤ 9223372036854775807; omega⟩, i64z⟩ hr (.inr (.inr ⟨rfl, by show (0 : Int) ≤ (na : Int); omega, by show (na : Int) < (vals.length : Int); omega, by show (0 : Int) ≤ ((0 : Nat) : Int); omega, by show ((0 : Nat) : Int) < (vals.length : Int); omega, HMk.out.1, by show bothV (mk12 ko) (vals.getD (na : Int).toNat 0) (vals.getD ((0 : Nat) : Int).toNat 0) = (r, 0); rw [Int.toNat_natCast, Int.toNat_natCast, x1, x2]; exact hz⟩))).mono ?_
                    rintro e w' ⟨rfl, l', h'⟩
                    exact ⟨rfl, l', _, h', by simp, by simp; omega, HB1.out.trans (h'.bel.mono HB1.out.size)⟩
                  subst hway
                  clear hyb hk11
                  go_wp2_with (go_at_call 15; fail)
                  refine HAd.out.mono ?_
                  rintro e w7 ⟨rfl, h7⟩
                  have H7 : Hid (LwI w w1 1 (11 + (j + 1)) w7) := h7
                  clear h7
                  go_wp2
                  exact ⟨⟨j + 1, by omega, by go_num, H7.out⟩, by simp [intOf]; omega⟩
                · have H7 : Hid (LwI w w1 1 (11 + (j + 1)) W6) := ⟨l, vals, HL6.out.1, by have := HX.out; have := HL5.out; omega, by have := HL5.out; omega, HL6.out.2⟩
                  clear hyb hk11
                  go_wp2
                  exact ⟨⟨j + 1, by omega, by go_num, H7.out⟩, by simp [intOf]; omega⟩
          · obtain ⟨l, vals, hL, hlo, hhi, hbw⟩ := HJ.out
            obtain ⟨q0, cap0, cv0, -⟩ := hL.val
            obtain ⟨q2, c2, g4, k4, W4, d3, hrun, d4, f4, q, c, -, hf5, hF5, hM5, hb5⟩ := lw_ret hL (by omega) (by omega)
            obtain ⟨n, hn⟩ : ∃ n, vals.length = n := ⟨_, rfl⟩
            obtain ⟨m, hm⟩ : ∃ m, n - 1 = m := ⟨_, rfl⟩
            have hgd := hL.lg.good (by rw [hL.lg.len]; omega) (by rw [hL.lg.len]; omega)
            rw [hL.lg.len] at hgd
            rw [hn] at cv0 d3 hrun d4 hf5 hF5 hM5 hb5 hgd hlo hhi
            rw [hm] at hrun hF5 hM5 hgd
            obtain ⟨z, hz⟩ : ∃ z, vals.getD m 0 = z := ⟨_, rfl⟩
            rw [hz] at hgd
            obtain ⟨W5, hW5⟩ : ∃ W5, W5 = W4.setCell ⟨w1.heap.size, 3, none⟩ (.slice (some ⟨g4, 0, none⟩) (n + 1) k4) := ⟨_, rfl⟩
            rw [← hW5] at hf5 hF5 hM5 hb5
            obtain ⟨tl, htl⟩ : ∃ tl : List Int, List.replicate n 1 = tl := ⟨_, rfl⟩
            obtain ⟨ll, hll⟩ : ∃ ll : List Ms, l ++ [rt ((m : Nat) : Int)] = ll := ⟨_, rfl⟩
            rw [htl, hll] at hF5
            rw [hll] at hgd
            have htn : tl.length = n := by rw [← htl]; simp
            have hln : ll.length = n + 1 := by rw [← hll]; simp [hL.lg.len, hn]
            have ht1 : ∀ x ∈ tl, x = 1 := fun x hx => by rw [← htl] at hx; exact (List.mem_replicate.1 hx).2
            have hme : (n : Int) - 1 = (m : Int) := by omega
            have lmn : m < n := by omega
            have hVa5 : ∃ gv cap, ∀ W, Below W5.heap.size W5 W → W.cell? ⟨w1.heap.size + 1, 0, none⟩ = some (.slice (some ⟨gv, 0, none⟩) n cap) ∧ W.cell? ⟨gv, m, none⟩ = some (.int .i64 z) := by
              obtain ⟨tv, sv, vv, hMM⟩ := hM5
              obtain ⟨qv, cap, rfl⟩ := own_slice hMM.u
              rcases own_row hMM.u with ⟨_, e2⟩ | ⟨gv, cap', e1, e2, e3⟩
              · omega
              · injection e1 with e1 _ _
                subst e1
                have a0 : W5.cell? ⟨w1.heap.size + 1, 0, none⟩ = some (.slice (some ⟨gv, 0, none⟩) n cap) := cell_at (i := 0) hMM.v rfl
                have a1 : W5.cell? ⟨gv, m, none⟩ = some (.int .i64 z) := e3 m _ (by
                  show (vals.map fun x => Value.int .i64 x)[m]? = _
                  rw [List.getElem?_map, List.getElem?_eq_getElem (show m < vals.length by omega), ← hz, List.getD_eq_getElem?_getD, List.getElem?_eq_getElem (show m < vals.length by omega)]
                  rfl)
                exact ⟨gv, cap, fun W hb => ⟨by rw [hb.cell (p := ⟨w1.heap.size + 1, 0, none⟩) (cell_lt a0)]; exact a0, by rw [hb.cell (p := ⟨gv, m, none⟩) (cell_lt a1)]; exact a1⟩⟩
            obtain ⟨gv, cap, hVa⟩ := hVa5
            have HVa : Hid (∀ W, Below W5.heap.size W5 W → W.cell? ⟨w1.heap.size + 1, 0, none⟩ = some (.slice (some ⟨gv, 0, none⟩) n cap) ∧ W.cell? ⟨gv, m, none⟩ = some (.int .i64 z)) := hVa
            obtain ⟨W7, hW7⟩ : ∃ W7, W7 = (W5.alloc (.cells #[.string yMain, .int .i64 0, .slice q n c, .slice (some ⟨g4, 0, none⟩) (n + 1) k4] 35)).alloc (.cells #[.slice (some ⟨W5.heap.size, 0, none⟩) 1 1] 53) := ⟨_, rfl⟩
            have hz6 : (W5.alloc (.cells #[.string yMain, .int .i64 0, .slice q n c, .slice (some ⟨g4, 0, none⟩) (n + 1) k4] 35)).heap.size = W5.heap.size + 1 := by simp
            have hb7 : Below W5.heap.size W5 W7 := by rw [hW7]; exact (al_bel _ _).trans ((al_bel (W5.alloc _) _).mono (by simp))
            have m0 : W7.heap[W5.heap.size]? = some (.cells #[.string yMain, .int .i64 0, .slice q n c, .slice (some ⟨g4, 0, none⟩) (n + 1) k4] 35) := by rw [hW7, row_eq_alloc (by omega), heap_alloc_last]
            have m1 : W7.heap[W5.heap.size + 1]? = some (.cells #[.slice (some ⟨W5.heap.size, 0, none⟩) 1 1] 53) := by rw [hW7, ← hz6, heap_alloc_last]
            have hOne : OneF W7 (W5.heap.size + 1) w1.heap.size tl ll := by
              refine ⟨W5.heap.size, 1, q, c, some ⟨g4, 0, none⟩, k4, cell_at (i := 0) m1 rfl, Nat.le_refl _, cell_at (i := 0) m0 rfl, cell_at (i := 1) m0 rfl, ?_, ?_, ?_⟩
              · rw [htn]; exact cell_at (i := 2) m0 rfl
              · rw [hln]; exact cell_at (i := 3) m0 rfl
              · rw [htn, hln]; exact hF5.below hb7
            have hbw7 : Below w.heap.size w W7 := HB1.out.trans ((hb5.trans (hb7.mono hb5.size)).mono HB1.out.size)
            have HFd : Hid (Calls Tryd.prog 17 #[ptr (W5.heap.size + 1)] W7 (FoP W7 tl z)) := fold_17 W7 _ _ tl ll z hOne (HEn.out.1.below hbw7) (HEn.out.2.1.below hbw7) (HEn.out.2.2.below hbw7) (by rw [htn]; exact hgd.1) hgd.2.1 hgd.2.2 ht1 (by omega)
            have HB7 : Hid (Below w.heap.size w W7 ∧ Below W5.heap.size W5 W7 ∧ (∀ x ∈ tl, x = 1) ∧ tl.length ≤ 64) := ⟨hbw7, hb7, ht1, by omega⟩
            have y0 := cell_at (i := 0) hf5 rfl
            have y1 := cell_at (i := 1) hf5 rfl
            have y2 := cell_at (i := 2) hf5 rfl
            have y3 := cell_at (i := 3) hf5 rfl
            clear hL hbw hF5 hM5 hb5 hgd hz htl hll htn hln ht1 hVa hm hn m0 m1 hOne hbw7 hb7 hz6 hf5 HJ H5
            go_upto_region 28 with (at_builtin; refine wpl_run_append _ rfl _ _ 33 33 rfl rfl rfl hrun ?_)
            rw [← hW5]
            clear hW5 hrun d3 d4 f4 cv0 hme hlt2
            go_wp2_with (go_at_call 17; fail)
            rw [← hW7]
            clear hW7 y0 y1 y2 y3
            refine HFd.out.mono ?_
            rintro e w8 ⟨db, B8, l8, rfl, hb8, ho8, hl8⟩
            have HB8 : Hid (Below w.heap.size w w8 ∧ Below W5.heap.size W5 w8) := ⟨HB7.out.1.trans (hb8.mono HB7.out.1.size), HB7.out.2.1.trans (hb8.mono HB7.out.2.1.size)⟩
            obtain ⟨q8, c8, hc8⟩ := one_code ho8 (hl8.good (by have := HB7.out.2.2.2; omega)) HB7.out.2.2.1 (by have := HB7.out.2.2.2; omega)
            have HC8 : Hid (CodeAt w8 db q8 c8 [⟨mainB, 0, tl, l8⟩] ∧ Lef tl.length z l8) := ⟨hc8, hl8⟩
            obtain ⟨st, hst⟩ : ∃ st, stepsV [⟨mainB, 0, tl, l8⟩] = st := ⟨_, rfl⟩
            have hst2 : st ≤ 2 := by
              rw [← hst]
              have := HC8.out.2.le
              simp [stepsV]
              exact this
            have HSt : Hid (∀ W, Below w8.heap.size w8 W → Calls Tryd.prog 10 #[ptr db] W (fun e w' => e = .returned (.int .i64 (st : Int)) ∧ Below w8.heap.size w8 w')) := fun W hb => by
              have := Steps_any W db q8 c8 _ (HC8.out.1.below hb)
              rw [hst] at this
              exact this.mono (by rintro e w' ⟨rfl, hb'⟩; exact ⟨rfl, hb.trans (hb'.mono hb.size)⟩)
            have HRn : Hid (∀ W, Below w8.heap.size w8 W → Calls Tryd.prog 12 #[ptr db, .slice none 0 0, .int .i64 10] W (fun e w' => ∃ p c, e = .returned (.agg #[.int .i64 1, .int .i64 z, .slice p 0 c]) ∧ Below w8.heap.size w8 w')) := fun W hb => by
              have hbw := HB8.out.1.trans (hb.mono HB8.out.1.size)
              have := Run_any W db q8 c8 _ (.slice none 0 0) [] 10 11 (HC8.out.1.below hb) (HEn.out.2.1.below hbw) (HEn.out.2.2.below hbw) ⟨none, 0, rfl, .inl rfl⟩ (by decide) (by decide)
              rw [lef_run HC8.out.2 rfl HB7.out.2.2.1 (by have := HB7.out.2.2.2; omega)] at this
              exact this.mono (by rintro e w' ⟨p, c, rfl, _, hb'⟩; exact ⟨p, c, rfl, hb.trans (hb'.mono hb.size)⟩)
            have HSe : Hid (∀ W p c, Below w8.heap.size w8 W → Calls Tryd.prog 18 #[.agg #[.int .i64 1, .int .i64 z, .slice p 0 c], .agg #[.int .i64 1, .int .i64 z, .slice none 0 0]] W (fun e w' => e = .returned (.bool true) ∧ Below w8.heap.size w8 w')) := fun W p c hb => (same_18 W 1 z p none c 0).mono (by rintro e w' ⟨rfl, hb'⟩; exact ⟨rfl, hb.trans (hb'.mono hb.size)⟩)
            have HVw : Hid (∀ W, Below w8.heap.size w8 W → W.cell? ⟨w1.heap.size + 1, 0, none⟩ = some (.slice (some ⟨gv, 0, none⟩) n cap) ∧ W.cell? ⟨gv, m, none⟩ = some (.int .i64 z)) := fun W hb => HVa.out W (HB8.out.2.trans (hb.mono HB8.out.2.size))
            have HXw : Hid (∀ W, Below w8.heap.size w8 W → G (.returned (.bool true)) W) := fun W hb => HG0.out W (HB8.out.1.trans (hb.mono HB8.out.1.size))
            have t2 : decide ((st : Int) ≤ 2) = true := decide_eq_true (by omega)
            have s1 := (HVw.out w8.drew (Below.refl _ _).drew).1
            have s2 := (HVw.out w8.drew (Below.refl _ _).drew).2
            clear hb8 ho8 hl8 hc8 hst HFd HVa
            go_wp2_with fail
            go_region_with (first | (go_at_call 10; refine (HSt.out _ (Below.refl _ _).drew).mono ?_; rintro e w9 ⟨rfl, hb9⟩; have HB9 : Hid (Below w8.heap.size w8 w9) := hb9; have v1 := (HVw.out w9 hb9).1; have v2 := (HVw.out w9 hb9).2; clear hb9) | (go_at_call 12; refine (HRn.out _ HB9.out).mono ?_; rintro e w10 ⟨p10, c10, rfl, hb10⟩; have HB10 : Hid (Below w8.heap.size w8 w10) := hb10; have x1 := (HVw.out w10 hb10).1; have x2 := (HVw.out w10 hb10).2; clear hb10) | (go_at_call 18; refine (HSe.out _ _ _ HB10.out).mono ?_; rintro e w11 ⟨rfl, hb11⟩; have HX : Hid (G (.returned (.bool true)) w11) := HXw.out w11 hb11; clear hb11))
            all_goals
              clear HSt HRn HSe HVw HXw HC8 HB8 HB7 HEn HG0 HGv HB1
              go_wp2
              first | exact HX.out | (go_ret; exact HX.out) | (exact bodyPost_ret rfl rfl HX.out)
end Go.Proofs.YtjmbjpimabnohaaDoor.Mid
