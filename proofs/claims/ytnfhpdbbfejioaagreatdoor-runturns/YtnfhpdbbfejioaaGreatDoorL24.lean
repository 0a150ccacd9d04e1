/- Package run: blocks are made ready; so is whatever is read. Package run, walked: pay, item, array, take. Package run, walked: tell. -/
import Derived.Test.YtnfhpdbbfejioaaGreatDoorL23
import Derived.Test.YtnfhpdbbfejioaaGreatDoorL16
namespace Go.Proofs.YtnfhpdbbfejioaaGreatDoor
set_option linter.unusedVariables false
set_option linter.unusedSimpArgs false
open Go Go.RowKit
abbrev IsT (x : Tr) : Prop := ∃ c a nm ix v th el, x = st c a nm ix v th el
/-- Statements in a row, one by one. -/
theorem stm_cells {S : Nat → Prop} {w : World} : ∀ (xs : List Tr) (cs : List Value), (∀ x ∈ xs, IsT x) → StAt S w (chain xs) cs → cs.length = xs.length * 7 ∧ ∀ (i : Nat) (x : Tr), xs[i]? = some x →
    ∃ c a nm ix v th el vi vv vt ve, x = st c a nm ix v th el ∧ cs[i * 7]? = some (.int .i64 c) ∧ cs[i * 7 + 2]? = some (str nm) ∧ cs[i * 7 + 3]? = some (.pointer vi) ∧ cs[i * 7 + 4]? = some (.pointer vv) ∧ cs[i * 7 + 5]? = some vt ∧ cs[i * 7 + 6]? = some ve ∧ ExAt S w ix (.pointer vi) ∧ ExAt S w v (.pointer vv) ∧ (∃ nt ts, RowS S w 147 7 vt nt ts ∧ StAt S w th ts) ∧ (∃ ne es, RowS S w 147 7 ve ne es ∧ StAt S w el es)
  | [], cs, _, h => by
    unfold chain at h
    rw [StAt] at h
    subst h
    exact ⟨rfl, fun i x hx => by simp at hx⟩
  | x :: xs, cs, hx, h => by
    obtain ⟨c, a, nm, ix, v, th, el, rfl⟩ := hx x (by simp)
    unfold chain at h
    rw [StAt] at h
    obtain ⟨vi, vv, vt, ve, nt, ne, ts, es, rest, rfl, a1, a2, a3, a4, a5, a6, a7⟩ := h
    obtain ⟨b1, b2⟩ := stm_cells xs rest (fun y hy => hx y (by simp [hy])) a7
    refine ⟨by simp [b1]; omega, fun i y hy => ?_⟩
    cases i with
    | zero =>
      simp only [List.getElem?_cons_zero, Option.some.injEq] at hy
      subst hy
      exact ⟨c, a, nm, ix, v, th, el, vi, vv, vt, ve, rfl, rfl, rfl, rfl, rfl, rfl, rfl, a1, a2, ⟨nt, ts, a3, a4⟩, ⟨ne, es, a5, a6⟩⟩
    | succ i =>
      simp only [List.getElem?_cons_succ] at hy
      obtain ⟨c', a', nm', ix', v', th', el', vi', vv', vt', ve', e, q0, q2, q3, q4, q5, q6, q⟩ := b2 i y hy
      have k : ∀ j, ([.int .i64 c, .int .i64 a, str nm, .pointer vi, .pointer vv, vt, ve] ++ rest)[(i + 1) * 7 + j]? = rest[i * 7 + j]? := fun j => by
        rw [List.getElem?_append_right (by simp; omega)]
        congr 1
        simp
        omega
      exact ⟨c', a', nm', ix', v', th', el', vi', vv', vt', ve', e, (k 0).trans q0, (k 2).trans q2, (k 3).trans q3, (k 4).trans q4, (k 5).trans q5, (k 6).trans q6, q⟩
theorem clb_of {w : World} {P : Nat} : ∀ (xs : List Tr) (zs : List Value), (∀ x ∈ xs, IsT x) → zs.length = xs.length → (∀ (i : Nat) (x : Tr) (u : Value), xs[i]? = some x → zs[i]? = some u → ClB w P (cc x ce) [u]) → ClB w P (chain xs) zs
  | [], zs, _, hl, _ => by
    have : zs = [] := by simpa using hl
    subst this
    unfold chain
    rw [ClB]
  | x :: xs, zs, hx, hl, h => by
    cases zs with
    | nil => simp at hl
    | cons z zs =>
      obtain ⟨c, a, nm, ix, v, th, el, rfl⟩ := hx x (by simp)
      have h0 := h 0 _ z rfl rfl
      have h1 := clb_of xs zs (fun y hy => hx y (by simp [hy])) (by simpa using hl) fun i x' u hx hu => h (i + 1) x' u (by simpa using hx) (by simpa using hu)
      unfold chain
      rw [ClB] at h0 ⊢
      obtain ⟨u, rest, e, _, h0⟩ := h0
      injection e with e1 e2
      subst e1
      exact ⟨z, zs, rfl, h1, h0⟩
theorem info67 : (Tryz.prog.info? 67).map (fun i => (i.zero, i.size, i.bytes)) = some (some .nilFunc, 1, 8) := by kernel_rfl
theorem mk_acts (n : Nat) (hn : n ≤ 1000000) (w : World) : (Instr.makeSlice 184 (.int .i64 (n : Int)) (.int .i64 (n : Int))).run Tryz.prog w = .ok (.slice (some ⟨w.heap.size, 0, none⟩) n n) (w.alloc (.cells (List.replicate n Value.nilFunc).toArray 67)) := by
  obtain ⟨i, hi, hz0, hz1, hz2⟩ := info_parts info67
  have := run_makeSlice w 184 67 i _ Tryz.underlying184 hi hz0 .i64 .i64 (n : Int) (n : Int) (by omega) (by omega) (by rw [hz1]; simp; omega) (by rw [hz2]; omega) (by omega)
  rw [hz1] at this
  simp only [Int.toNat_natCast, made_nil] at this
  exact this
/-- Where the statements of a block that is made ready stand. -/
structure BkI (w : World) (P : Nat) (xs : List Tr) (n : Nat) (wr : World) (i : Nat) : Prop where
  at' : ∃ zs : List Value, zs.length = i ∧ Below w.heap.size w wr ∧ w.heap.size + 1 + 1 < wr.heap.size ∧ wr.heap[w.heap.size]? = some (.cells #[ptr P] 57) ∧
    wr.heap[w.heap.size + 1]? = some (.cells (zs ++ List.replicate (n - i) Value.nilFunc).toArray 67) ∧ wr.heap[w.heap.size + 1 + 1]? = some (.cells #[.slice (some ⟨w.heap.size + 1, 0, none⟩) n n] 184) ∧
    ∀ (j : Nat) (x : Tr) (u : Value), xs[j]? = some x → zs[j]? = some u → ClB wr P (cc x ce) [u]
theorem bk_start (w : World) (P : Nat) (xs : List Tr) (n : Nat) : BkI w P xs n (((w.alloc (.cells #[ptr P] 57)).alloc (.cells (Array.replicate n Value.nilFunc) 67)).alloc (.cells #[.slice (some ⟨w.heap.size + 1, 0, none⟩) n n] 184)) 0 := by
  have er : Array.replicate n Value.nilFunc = (List.replicate n Value.nilFunc).toArray := by simp
  rw [er]
  refine ⟨⟨[], rfl, (bel2 _ _ _).alloc (by simp; omega) _, by simp, row_alloc (al1 _ _ _) _, row_alloc (al2 _ _ _) _, ?_, fun j x u _ hu => by simp at hu⟩⟩
  have := heap_alloc_last ((w.alloc (.cells #[ptr P] 57)).alloc (.cells (List.replicate n Value.nilFunc).toArray 67)) (.cells #[.slice (some ⟨w.heap.size + 1, 0, none⟩) n n] 184)
  simpa using this
theorem bk_next {w : World} {P : Nat} {xs : List Tr} {n : Nat} {wr w1 : World} {i : Nat} {x : Tr} {u : Value} (h : BkI w P xs n wr i) (hi : i < n) (hx : xs[i]? = some x) (hb : Below wr.heap.size wr w1) (hc : ClB w1 P (cc x ce) [u]) : BkI w P xs n (w1.setCell ⟨w.heap.size + 1, i, none⟩ u) (i + 1) := by
  obtain ⟨zs, hz, h1, hz3, h2, h4, h5, h6⟩ := h.at'
  have k4 : w1.heap[w.heap.size + 1]? = some (.cells (zs ++ List.replicate (n - i) Value.nilFunc).toArray 67) := by rw [hb.block _ (by omega)]; exact h4
  have hks : Ks w1 (w1.setCell ⟨w.heap.size + 1, i, none⟩ u) := Ks.set' (.inr rfl) k4 (by simp; right; omega)
  have ho : ∀ b, b < wr.heap.size → b ≠ w.heap.size + 1 → (w1.setCell ⟨w.heap.size + 1, i, none⟩ u).heap[b]? = wr.heap[b]? := fun b hb1 hb2 => by rw [heap_setCell_other _ _ _ _ hb2, hb.block b hb1]
  refine ⟨⟨zs ++ [u], by simp [hz], (h1.trans (hb.mono (by omega))).setCell (p := ⟨w.heap.size + 1, i, none⟩) (by show w.heap.size ≤ w.heap.size + 1; omega) _, ?_, by rw [ho _ (by omega) (by omega)]; exact h2, ?_, by rw [ho _ (by omega) (by omega)]; exact h5, fun j x' u' hx' hu' => ?_⟩⟩
  · have := hb.size
    have e : (w1.setCell ⟨w.heap.size + 1, i, none⟩ u).heap.size = w1.heap.size := by simp [World.setCell]
    omega
  · rw [← fill_set zs n i u hz hi]
    exact heap_setCell_same _ _ _ _ _ _ k4
  · refine ClB.kept hks _ _ ?_
    by_cases hj : j < i
    · rw [List.getElem?_append_left (by omega)] at hu'
      exact (h6 j x' u' hx' hu').below hb
    · rw [List.getElem?_append_right (by omega)] at hu'
      obtain rfl : j = i := by
        have := (List.getElem?_eq_some_iff.1 hu').1
        simp at this
        omega
      rw [hz, Nat.sub_self] at hu'
      simp only [List.getElem?_cons_zero, Option.some.injEq] at hu'
      subst hu'
      rw [hx] at hx'
      injection hx' with hx'
      subst hx'
      exact hc
theorem bk_end {w : World} {P : Nat} {xs : List Tr} {n : Nat} {wr : World} (h : BkI w P xs n wr n) (hn : n = xs.length) (hxs : ∀ x ∈ xs, IsT x) : BlP P (chain xs) w (.returned (.func (.func 87) #[] #[ptr (w.heap.size + 1 + 1), ptr w.heap.size])) wr := by
  obtain ⟨zs, hz, h1, hz3, h2, h4, h5, h6⟩ := h.at'
  rw [Nat.sub_self, List.replicate_zero, List.append_nil] at h4
  exact ⟨_, rfl, ⟨w.heap.size + 1 + 1, w.heap.size, w.heap.size + 1, zs, rfl, by rw [hz]; exact h5, h4, h2, clb_of xs zs hxs (by omega) h6⟩, h1⟩
set_option maxRecDepth 100000 in
set_option maxHeartbeats 4000000 in
theorem blockm_walk {xs : List Tr} (hxs : ∀ x ∈ xs, CmS x ∧ IsT x) (h6 : xs.length ≤ 1000000) : CmB (chain xs) := by
  intro S w P v n0 cs hrow hst
  obtain ⟨hcl, hce⟩ := stm_cells xs cs (fun x hx => (hxs x hx).2) hst
  obtain ⟨pv, cv, hv, hcell⟩ : ∃ pv cv, v = .slice pv xs.length cv ∧ ∀ i, i < xs.length → ∃ g cur, pv = some ⟨g, 0, none⟩ ∧ w.heap[g]? = some (.cells cur 147) ∧ xs.length ≤ cv ∧ ∀ j, j < 7 → cur[i * 7 + j]? = cs[i * 7 + j]? := by
    obtain ⟨⟨e1, hh⟩, -⟩ := hrow
    have en : n0 = xs.length := by omega
    subst en
    rcases hh with ⟨rfl, e2⟩ | ⟨g, cap, cur, rfl, _, hg, hc, _, _, ht⟩
    · rw [e2]
      exact ⟨none, 0, rfl, fun i hi => by omega⟩
    · refine ⟨_, cap, rfl, fun i hi => ⟨g, cur, rfl, hg, hc, fun j hj => ?_⟩⟩
      rw [← ht, List.getElem?_take, if_pos (by omega)]
      simp
  subst hv
  obtain ⟨n, hn⟩ : ∃ n, n = xs.length := ⟨_, rfl⟩
  have HN : Hid (n = xs.length) := hn
  have hn6 : n ≤ 1000000 := by rw [hn]; exact h6
  rw [← hn] at hcell ⊢
  have hmf := mkf
  have hmk := mk_acts n hn6
  have HCe : Hid (∀ i, i < n → ∃ g cur, pv = some ⟨g, 0, none⟩ ∧ w.heap[g]? = some (.cells cur 147) ∧ n ≤ cv ∧ ∀ j, j < 7 → cur[i * 7 + j]? = cs[i * 7 + j]?) := hcell
  have HSc : Hid (∀ (i : Nat) (x : Tr), xs[i]? = some x → ∃ c a nm ix v th el vi vv vt ve, x = st c a nm ix v th el ∧ cs[i * 7]? = some (.int .i64 c) ∧ cs[i * 7 + 2]? = some (str nm) ∧ cs[i * 7 + 3]? = some (.pointer vi) ∧ cs[i * 7 + 4]? = some (.pointer vv) ∧ cs[i * 7 + 5]? = some vt ∧ cs[i * 7 + 6]? = some ve ∧ ExAt S w ix (.pointer vi) ∧ ExAt S w v (.pointer vv) ∧ (∃ nt ts, RowS S w 147 7 vt nt ts ∧ StAt S w th ts) ∧ (∃ ne es, RowS S w 147 7 ve ne es ∧ StAt S w el es)) := hce
  have HXs : Hid (∀ x ∈ xs, CmS x ∧ IsT x) := hxs
  clear hrow hst hcl hce hcell hn h6 hxs
  generalize hG : BlP P (chain xs) w = G
  have HG : Hid (BlP P (chain xs) w = G) := hG
  clear hG
  go_enter Tryz.func53, Tryz.ntmps53
  go_upto_region 2 with fail
  have HSt := bk_start w P xs n
  obtain ⟨W4, hW4⟩ : ∃ W4, W4 = ((w.alloc (.cells #[ptr P] 57)).alloc (.cells (Array.replicate n Value.nilFunc) 67)).alloc (.cells #[.slice (some ⟨w.heap.size + 1, 0, none⟩) n n] 184) := ⟨_, rfl⟩
  rw [← hW4] at HSt ⊢
  have HS0 : Hid (BkI w P xs n W4 0) := HSt
  clear hW4 HSt
  go_wp2_with fail
  go_loopw [12] (fun v wr => ∃ i : Nat, i ≤ n ∧ v = .int .i64 i ∧ Hid (BkI w P xs n wr i)) (fun v _ => n - (intOf v).toNat)
  case atStart => exact ⟨0, Nat.zero_le _, rfl, HS0⟩
  case round =>
    obtain ⟨i, hin, rfl, HI⟩ := hrel
    by_cases hlt2 : i < n
    · obtain ⟨x, hx⟩ : ∃ x, xs[i]? = some x := ⟨xs[i]'(by rw [← HN.out]; exact hlt2), List.getElem?_eq_getElem _⟩
      obtain ⟨g, cur, rfl, hg, hcap, hgi⟩ := HCe.out i hlt2
      obtain ⟨c, a, nm, ix, v, th, el, vi, vv, vt, ve, ex, q0, q2, q3, q4, q5, q6, q7, q8, q9, q10⟩ := HSc.out i x hx
      have hcm := (HXs.out x (List.mem_of_getElem? hx)).1
      have hm : StM S w g (i * 7) c a nm ix v th el vi vv vt ve := ⟨⟨cur, hg, (hgi 0 (by omega)).trans q0, (hgi 2 (by omega)).trans q2, (hgi 3 (by omega)).trans q3, (hgi 4 (by omega)).trans q4, (hgi 5 (by omega)).trans q5, (hgi 6 (by omega)).trans q6⟩, q7, q8, q9, q10⟩
      obtain ⟨zs, hz, h1, hz3, h2, h4, h5, h6⟩ := HI.out.at'
      have e1 : wr.cell? ⟨w.heap.size, 0, none⟩ = some (ptr P) := cell_at (i := 0) h2 rfl
      have e2 : wr.cell? ⟨w.heap.size + 1 + 1, 0, none⟩ = some (.slice (some ⟨w.heap.size + 1, 0, none⟩) n n) := cell_at (i := 0) h5 rfl
      have e4 : wr.cell? ⟨w.heap.size + 1, i, none⟩ = some Value.nilFunc := cell_at h4 (fill_at zs n i hz hlt2)
      have f4 : wr.frozen? ⟨w.heap.size + 1, i, none⟩ = false := by simp [World.frozen?, h4]
      have hz0 : w.heap.size < wr.heap.size := by omega
      have HB1 : Hid (Below w.heap.size w wr) := h1
      have HX : Hid (xs[i]? = some x) := hx
      have HC : Hid (∀ W, Below w.heap.size w W → Calls Tryz.prog 86 #[ptr P, .pointer (some ⟨g, i * 7, none⟩)] W (CsP P x W)) := fun W hb => hcm c a nm ix v th el ex S W P g (i * 7) vi vv vt ve (hm.below hb)
      have hl9 : (i : Int) < (n : Int) := by omega
      clear hx hg hgi hcm h1 h2 h4 h5 h6 hz q0 q2 q3 q4 q5 q6 q7 q8 q9 q10 hm ex
      go_wp2_with fail
      go_region_held3 (fun w' => w'.cell? ⟨w.heap.size, 0, none⟩ = some (ptr P) ∧ w'.cell? ⟨w.heap.size + 1 + 1, 0, none⟩ = some (.slice (some ⟨w.heap.size + 1, 0, none⟩) n n))
        (first | (go_keep; done) | ((try dsimp only); refine ⟨?_, ?_⟩ <;> first | (go_keep; done) | (go_simp; done) | (simp [*]; done) | (rw [World.cell?_setCell_other (by intro e; injection e; omega)]; assumption)))
        (first | (go_at_call 86; refine (HC.out _ (HB1.out.drew)).mono ?_; rintro e w1 ⟨k1, cp1, rfl, hcl, hb1⟩; have hcc := fun b o h => hb1.cell (p := ⟨b, o, none⟩) h; have hff := fun b o h => hb1.frozen (p := ⟨b, o, none⟩) h; have t1 : w1.cell? ⟨w.heap.size, 0, none⟩ = some (ptr P) := (hcc _ _ (by simp; omega)).trans (by go_simp); have t2 : w1.cell? ⟨w.heap.size + 1 + 1, 0, none⟩ = some (.slice (some ⟨w.heap.size + 1, 0, none⟩) n n) := (hcc _ _ (by simp; omega)).trans (by go_simp); have t4 : w1.cell? ⟨w.heap.size + 1, i, none⟩ = some Value.nilFunc := (hcc _ _ (by simp; omega)).trans (by go_simp); have t5 : w1.frozen? ⟨w.heap.size + 1, i, none⟩ = false := (hff _ _ (by simp; omega)).trans (by go_simp); have HI2 : Hid (BkI w P xs n (w1.setCell ⟨w.heap.size + 1, i, none⟩ (.func (.func k1) #[] cp1)) (i + 1)) := bk_next HI.out hlt2 HX.out (undrew hb1) hcl; clear hcc hff hcl hb1))
      go_wp2
      exact ⟨⟨i + 1, by omega, by go_num, HI2⟩, by simp [intOf]; omega⟩
    · have hin2 : i = n := by omega
      subst hin2
      have HE : Hid (G (.returned (.func (.func 87) #[] #[ptr (w.heap.size + 1 + 1), ptr w.heap.size])) wr) := by
        show G _ _
        rw [← HG.out]
        exact bk_end HI.out HN.out (fun x hx => (HXs.out x hx).2)
      go_wp2
      exact HE.out
/-- Every expression, every statement, every block that is read. -/
theorem cm_all : ∀ (f d : Nat) (t : Tr), RE f d t → GoodE t → CmE t ∧ IsNd t
  | 0, _, _, h, _ => by rw [RE] at h; exact h.elim
  | f + 1, d, t, h, hg => by
    have hn : IsNd t := re_nd h
    refine ⟨?_, hn⟩
    rw [RE] at h
    obtain ⟨_, h⟩ := h
    rcases h with ⟨a, n, _, _, rfl⟩ | ⟨a, nm, _, rfl⟩ | ⟨a, op, l, r, _, hl, hr, rfl⟩ | ⟨a, op, l, _, hl, rfl⟩ | ⟨a, nm, xs, _, hx, rfl⟩ | ⟨a, l, hl, rfl⟩ | ⟨a, l, hl, rfl⟩ | ⟨a, l, r, hl, hr, rfl⟩ | ⟨a, rfl⟩
    all_goals rw [GoodE] at hg
    · exact cm_num
    · exact cm_name
    · obtain ⟨_, _, _, _, _, _, gl, gr, _⟩ := hg
      have il := cm_all f _ l hl gl
      have ir := cm_all f _ r hr gr
      exact cm_bin il.1 il.2 ir.1 ir.2
    · obtain ⟨_, _, _, _, _, _, gl, gr, _⟩ := hg
      have il := cm_all f _ l hl gl
      exact cm_un il.1 il.2
    · obtain ⟨_, _, _, _, _, _, _, _, gg, ys, e, hlen⟩ := hg
      have hl2 : xs.length ≤ 1000000 := by
        have := congrArg chl e
        rw [chl_chain, chl_chain] at this
        omega
      have gx : ∀ (xs : List Tr), GoodE (chain xs) → ∀ x ∈ xs, GoodE x := fun xs => by
        induction xs with
        | nil => intro _ x hx; simp at hx
        | cons y ys ih =>
          intro h x hx
          unfold chain at h
          rw [GoodE] at h
          rcases List.mem_cons.1 hx with rfl | hx
          · exact h.2.1
          · exact ih h.2.2 x hx
      exact cm_call (fun x hx' => cm_all f _ x (hx x hx') (gx xs gg x hx')) hl2
    · obtain ⟨_, _, _, _, _, _, gl, gr, _⟩ := hg
      have il := cm_all f _ l hl gl
      exact cm_new il.1 il.2
    · obtain ⟨_, _, _, _, _, _, gl, gr, _⟩ := hg
      have il := cm_all f _ l hl gl
      exact cm_len il.1 il.2
    · obtain ⟨_, _, _, _, _, _, gl, gr, _⟩ := hg
      have il := cm_all f _ l hl gl
      have ir := cm_all f _ r hr gr
      exact cm_item il.1 il.2 ir.1 ir.2
    · exact cm_input
theorem cm_rex {d : Nat} {t : Tr} (h : REx d t) (g : GoodE t) : CmE t ∧ IsNd t := by
  obtain ⟨e, h⟩ := h
  exact cm_all e d t h g
theorem goodS_in : ∀ (xs : List Tr), GoodS (chain xs) → ∀ x ∈ xs, GoodS (cc x ce)
  | [], _, x, hx => by simp at hx
  | y :: xs, h, x, hx => by
    have h' : GoodS (cc y (chain xs)) := h
    obtain ⟨c, a, nm, ix, v, th, el, rfl, h1, h2, h3, h4, h5, h6, h7, h8, h9, h10, h11⟩ := goodS_open h'
    rcases List.mem_cons.1 hx with rfl | hx
    · exact goodS_st h1 h2 h3 h4 h5 h6 h7 h8 h9 h10 goodS_ce
    · exact goodS_in xs h11 x hx
theorem cms_all : ∀ (f d : Nat) (t : Tr), RS f d t → GoodS (cc t ce) → CmS t
  | 0, _, _, h, _ => h.elim
  | f + 1, d, t, h, hg => by
    have BL : ∀ (d : Nat) (xs : List Tr), (∀ x ∈ xs, RS f d x) → GoodS (chain xs) → chl (chain xs) ≤ 1000000 → CmB (chain xs) := fun d xs hx g hc => blockm_walk (fun x hx' => ⟨cms_all f d x (hx x hx') (goodS_in xs g x hx'), rs_st (hx x hx')⟩) (by rw [chl_chain] at hc; exact hc)
    obtain ⟨c, a, nm, ix, v, th, el, rfl, h1, h2, h3, h4, h5, h6, h7, h8, h9, h10, h11⟩ := goodS_open hg
    rw [RS] at h
    rcases h with ⟨a', nm', v', hn, hv, e⟩ | ⟨a', nm', v', hn, hv, e⟩ | ⟨a', nm', i, v', hn, hi, hv, e⟩ | ⟨a', v', xs, ys, hd, hv, hx, hy, e⟩ | ⟨a', v', xs, hd, hv, hx, e⟩ | ⟨a', v', hv, e⟩ | ⟨a', v', hv, e⟩ | ⟨a', b, nm', xs, hn, ⟨e0, hx⟩, e⟩
    all_goals
      simp only [st, DataW.agg.injEq, List.cons.injEq, DataW.lit.injEq, Lit.int.injEq, Lit.string.injEq, true_and, and_true] at e
      obtain ⟨rfl, rfl, rfl, rfl, rfl, rfl, rfl⟩ := e
    · exact cm_var (cm_rex hv h6).1 (cm_rex hv h6).2
    · exact cm_set (cm_rex hv h6).1 (cm_rex hv h6).2
    · exact cm_put (cm_rex hi h4).1 (cm_rex hi h4).2 (cm_rex hv h6).1 (cm_rex hv h6).2
    · exact cm_if (cm_rex hv h6).1 (cm_rex hv h6).2 (BL _ xs hx h7 h8) (BL _ ys hy h9 h10)
    · exact cm_while (cm_rex hv h6).1 (cm_rex hv h6).2 (BL _ xs hx h7 h8)
    · exact cm_ret (cm_rex hv h6).1 (cm_rex hv h6).2
    · exact cm_print (cm_rex hv h6).1 (cm_rex hv h6).2
    · have hv : REx 0 (nd 5 b 0 nm' [] .nil .nil (chain xs)) := ⟨e0 + 1, by
        rw [RE]
        exact ⟨by omega, .inr (.inr (.inr (.inr (.inl ⟨_, _, _, hn, hx, rfl⟩))))⟩⟩
      exact cm_do (cm_rex hv h6).1 (cm_rex hv h6).2
theorem cmb_all {xs : List Tr} {e : Nat} (h : ∀ x ∈ xs, RS e 1 x) (g : GoodS (chain xs)) (hc : chl (chain xs) ≤ 1000000) : CmB (chain xs) := blockm_walk (fun x hx => ⟨cms_all e 1 x (h x hx) (goodS_in xs g x hx), rs_st (h x hx)⟩) (by rw [chl_chain] at hc; exact hc)
theorem St.ne {w0 : World} {P : Nat} {fv : Value} {w : World} {r : Rs} {d : Nat} (h : St w0 P fv w r d) {b : Nat} (hb : b ∈ r.ab.map (·.1)) : b ≠ P := by
  have := h.lo b hb
  have := h.lt
  omega
/-- A cell of the program's block is written. -/
theorem St.setP {w0 : World} {P : Nat} {fv : Value} {w : World} {r : Rs} {d : Nat} (h : St w0 P fv w r d) {i : Nat} {v : Value} (r' : Rs) (d' : Nat) (hpb : (#[fv, r.iv, r.ov, .int .i64 (r.s.fuel : Int), .int .i64 (d : Int)] : Array Value).setIfInBounds i v = #[fv, r'.iv, r'.ov, .int .i64 (r'.s.fuel : Int), .int .i64 (d' : Int)])
    (hab : r'.ab = r.ab) (hhp : r'.s.hp = r.s.hp) (hov : r'.ov = r.ov) (hout : r'.s.out = r.s.out) (hin : InS w0 P r'.iv r'.s.inp) (hf : r'.s.fuel ≤ 1000000) (hd : d' ≤ 40) :
    St w0 P fv (w.setCell ⟨P, i, none⟩ v) r' d' ∧ Fz P NoE w r (w.setCell ⟨P, i, none⟩ v) r' := by
  have hoth : ∀ b, b ≠ P → (w.setCell ⟨P, i, none⟩ v).heap[b]? = w.heap[b]? := fun b hb => heap_setCell_other _ _ _ _ hb
  have hsz : (w.setCell ⟨P, i, none⟩ v).heap.size = w.heap.size := by simp
  have hX : ∀ b, Xs P r' b ↔ Xs P r b := fun b => by unfold Xs; rw [hab, hov]
  refine ⟨⟨h.lt, by rw [hsz]; exact h.le, fun b h1 h2 => by rw [hoth b h2]; exact h.kp b h1 h2, ?_, hin, ?_, ?_, by rw [hab, hhp]; exact h.alen, ?_, by rw [hab]; exact h.lo, by rw [hab]; exact h.nd, hf, by rw [hout]; exact h.told, hd⟩, ⟨rfl, rfl, rfl, by rw [hsz]; exact Nat.le_refl _, fun b _ hx _ => hoth b (fun e => hx (.inl e)), by rw [hab]; exact List.prefix_rfl, fun b h1 h2 => absurd ((hX b).1 h1) h2⟩⟩
  · rw [heap_setCell_same _ _ _ _ _ _ h.pb, hpb]
  · rw [hov, hout]
    refine own_at h.out (fun k hk => hoth k (fun e => ?_))
    have := (h.out.lt k hk).1
    have := h.lt
    omega
  · rw [hov, hab]; exact h.apart
  · intro k b n hk
    rw [hab] at hk
    obtain ⟨l, a1, a2, a3, a4⟩ := h.arr k b n hk
    refine ⟨l, by rw [hhp]; exact a1, a2, a3, ?_⟩
    rw [hoth b (h.ne (List.mem_map.2 ⟨(b, n), List.mem_of_getElem? hk, rfl⟩))]
    exact a4
def Rs.fuel1 (r : Rs) : Rs := { r with s := { r.s with fuel := r.s.fuel - 1 } }
/-- What paying leaves. -/
def PayP (X : Cx) (w : World) (r : Rs) (d : Nat) (e : Ending) (w' : World) : Prop :=
  (r.s.fuel = 0 ∧ e = endE 6 ∧ w' = w) ∨ (r.s.fuel ≠ 0 ∧ e = .returned (.tuple #[]) ∧ St X.w0 X.P X.fv w' r.fuel1 d ∧ Fz X.P NoE w r w' r.fuel1)
set_option maxRecDepth 100000 in
set_option maxHeartbeats 1000000 in
theorem pay_any (X : Cx) (w : World) (r : Rs) (d : Nat) (h : St X.w0 X.P X.fv w r d) : Calls Tryz.prog 88 #[ptr X.P] w (PayP X w r d) := by
  have c3 := cell_at (i := 3) h.pb rfl
  have f3 := row_free h.pb 3
  have HH : Hid (St X.w0 X.P X.fv w r d) := h
  have hf := h.few
  by_cases h0 : r.s.fuel = 0
  · rw [h0] at c3
    have H0 : Hid (r.s.fuel = 0) := h0
    clear h h0 hf
    go_enter Tryz.func88, Tryz.ntmps88
    go_wp2_with (go_at_call 54; refine (rthrow_any _ _).mono ?_; rintro e w' ⟨rfl, rfl⟩)
    exact ⟨rfl, .inl ⟨H0.out, rfl, rfl⟩⟩
  · obtain ⟨fu, hfu⟩ : ∃ fu, r.s.fuel = fu + 1 := ⟨r.s.fuel - 1, by omega⟩
    have HF : Hid (r.s.fuel = fu + 1) := hfu
    rw [hfu] at c3 hf
    clear h h0 hfu
    go_enter Tryz.func88, Tryz.ntmps88
    go_wp2_with (go_at_call 54; fail)
    go_end0
    have e1 : r.fuel1.s.fuel = fu := by show r.s.fuel - 1 = fu; rw [HF.out]; omega
    obtain ⟨a1, a2⟩ := HH.out.setP (i := 3) (v := .int .i64 (fu : Int)) r.fuel1 d (by rw [e1]; rfl) rfl rfl rfl rfl HH.out.inp (by rw [e1]; omega) HH.out.deep
    exact .inr ⟨by rw [HF.out]; omega, rfl, a1, a2⟩
def ItP (b l : Nat) (i : Int) (w : World) (e : Ending) (w' : World) : Prop := (((i < 0 ∨ (l : Int) ≤ i) ∧ e = endE 3) ∨ (0 ≤ i ∧ i < l ∧ e = .returned (.pointer (some ⟨b, i.toNat, none⟩)))) ∧ w' = w
set_option maxRecDepth 100000 in
set_option maxHeartbeats 1000000 in
theorem item_any (b l c : Nat) (i : Int) (w : World) (hl : l ≤ 40) : Calls Tryz.prog 186 #[.slice (some ⟨b, 0, none⟩) l c, .int .i64 i] w (ItP b l i w) := by
  by_cases h0 : i < 0
  · go_enter Tryz.func186, Tryz.ntmps186
    go_wp2_with (go_at_call 54; refine (rthrow_any _ _).mono ?_; rintro e w' ⟨rfl, rfl⟩)
    exact ⟨rfl, .inl ⟨.inl h0, rfl⟩, rfl⟩
  · by_cases h1 : i < l
    · go_enter Tryz.func186, Tryz.ntmps186
      go_wp2_with (go_at_call 54; refine (rthrow_any _ _).mono ?_; rintro e w' ⟨rfl, rfl⟩)
      go_ret
      exact ⟨.inr ⟨by omega, h1, rfl⟩, rfl⟩
    · go_enter Tryz.func186, Tryz.ntmps186
      go_wp2_with (go_at_call 54; refine (rthrow_any _ _).mono ?_; rintro e w' ⟨rfl, rfl⟩)
      exact ⟨rfl, .inl ⟨.inr (by omega), rfl⟩, rfl⟩
set_option maxRecDepth 100000 in
set_option maxHeartbeats 1000000 in
theorem item_nil (i : Int) (w : World) : Calls Tryz.prog 186 #[.slice none 0 0, .int .i64 i] w fun e w' => e = endE 3 ∧ w' = w := by
  by_cases h0 : i < 0
  · go_enter Tryz.func186, Tryz.ntmps186
    go_wp2_with (go_at_call 54; refine (rthrow_any _ _).mono ?_; rintro e w' ⟨rfl, rfl⟩)
    exact ⟨rfl, rfl, rfl⟩
  · have h1 : 0 ≤ i := by omega
    go_enter Tryz.func186, Tryz.ntmps186
    go_wp2_with (go_at_call 54; refine (rthrow_any _ _).mono ?_; rintro e w' ⟨rfl, rfl⟩)
    exact ⟨rfl, rfl, rfl⟩
theorem info2 : (Tryz.prog.info? 2).map (fun i => (i.zero, i.size, i.bytes)) = some (some (.int .i64 0), 1, 8) := by kernel_rfl
theorem made_int (n : Nat) : madeCells (Value.int .i64 0).cells (n * 1) = (ints (List.replicate n 0)).toArray := by
  apply Array.ext'
  rw [Nat.mul_one]
  show (madeCells #[Value.int .i64 0] n).toList = _
  rw [toList_madeCells_one]
  simp [ints]
theorem mk_ints (n : Nat) (hn : n ≤ 40) (w : World) : (Instr.makeSlice 22 (.int .i64 (n : Int)) (.int .i64 (n : Int))).run Tryz.prog w = .ok (.slice (some ⟨w.heap.size, 0, none⟩) n n) (w.alloc (.cells (ints (List.replicate n 0)).toArray 2)) := by
  obtain ⟨i, hi, hz0, hz1, hz2⟩ := info_parts info2
  have := run_makeSlice w 22 2 i _ Tryz.underlying22 hi hz0 .i64 .i64 (n : Int) (n : Int) (by omega) (by omega) (by rw [hz1]; simp; omega) (by rw [hz2]; omega) (by omega)
  rw [hz1] at this
  simp only [Int.toNat_natCast, made_int] at this
  exact this
def ArP (n : Int) (w : World) (e : Ending) (w' : World) : Prop := ((n < 0 ∨ 40 < n) ∧ e = endE 4 ∧ w' = w) ∨ (0 ≤ n ∧ n ≤ 40 ∧ e = .returned (.slice (some ⟨w.heap.size, 0, none⟩) n.toNat n.toNat) ∧ w' = w.alloc (.cells (ints (List.replicate n.toNat 0)).toArray 2))
set_option maxRecDepth 100000 in
set_option maxHeartbeats 1000000 in
theorem array_any (n : Int) (w : World) : Calls Tryz.prog 194 #[.int .i64 n] w (ArP n w) := by
  by_cases h0 : n < 0
  · go_enter Tryz.func194, Tryz.ntmps194
    go_wp2_with (go_at_call 54; refine (rthrow_any _ _).mono ?_; rintro e w' ⟨rfl, rfl⟩)
    exact ⟨rfl, .inl ⟨.inl h0, rfl, rfl⟩⟩
  · by_cases h1 : 40 < n
    · go_enter Tryz.func194, Tryz.ntmps194
      go_wp2_with (go_at_call 54; refine (rthrow_any _ _).mono ?_; rintro e w' ⟨rfl, rfl⟩)
      exact ⟨rfl, .inl ⟨.inr h1, rfl, rfl⟩⟩
    · obtain ⟨m, rfl⟩ : ∃ m : Nat, n = m := ⟨n.toNat, by omega⟩
      have h2 : m ≤ 40 := by omega
      have hm := mk_ints m h2
      clear h0
      go_enter Tryz.func194, Tryz.ntmps194
      go_wp2_with (go_at_call 54; fail)
      go_ret
      exact .inr ⟨by omega, by omega, by simp, by simp⟩
def Rs.take1 (r : Rs) (iv : Value) : Rs := { r with iv := iv, s := { r.s with inp := r.s.inp.tail } }
/-- What taking a number leaves. -/
def TkP (X : Cx) (w : World) (r : Rs) (d : Nat) (e : Ending) (w' : World) : Prop :=
  ∃ iv, e = .returned (.int .i64 (r.s.inp.headD 0)) ∧ St X.w0 X.P X.fv w' (r.take1 iv) d ∧ Fz X.P NoE w r w' (r.take1 iv)
theorem tk_fin {X : Cx} {w : World} {r : Rs} {d : Nat} {x : Int} {xs : List Int} {iv : Value} (h : St X.w0 X.P X.fv w r d) (hn : r.s.inp = x :: xs) (hi : InS X.w0 X.P iv xs) : TkP X w r d (.returned (.int .i64 x)) (w.setCell ⟨X.P, 1, none⟩ iv) := by
  obtain ⟨a1, a2⟩ := h.setP (i := 1) (v := iv) (r.take1 iv) d rfl rfl rfl rfl rfl (by show InS _ _ _ r.s.inp.tail; rw [hn]; exact hi) h.few h.deep
  exact ⟨iv, by rw [hn]; rfl, a1, a2⟩
set_option maxRecDepth 100000 in
set_option maxHeartbeats 1000000 in
theorem take_any (X : Cx) (w : World) (r : Rs) (d : Nat) (h : St X.w0 X.P X.fv w r d) : Calls Tryz.prog 199 #[ptr X.P] w (TkP X w r d) := by
  obtain ⟨q, c, hiv, hq⟩ := h.inp
  have c1 := cell_at (i := 1) h.pb rfl
  have f1 := row_free h.pb 1
  have HH : Hid (St X.w0 X.P X.fv w r d) := h
  have HI : Hid (r.iv = .slice q r.s.inp.length c) := hiv
  cases hi : r.s.inp with
  | nil =>
    have HN : Hid (r.s.inp = []) := hi
    have c1' : w.cell? ⟨X.P, 1, none⟩ = some (.slice q 0 c) := by rw [c1]; show some r.iv = _; rw [hiv, hi]; rfl
    clear h c1 hq hiv hi
    go_enter Tryz.func199, Tryz.ntmps199
    go_wp2
    go_ret
    have e : r.take1 r.iv = r := by
      have hn := HN.out
      unfold Rs.take1
      rw [hn]
      cases r with
      | mk ab iv ov s =>
        cases s with
        | mk fu inp out hp =>
          have hn' : inp = [] := hn
          subst hn'
          rfl
    refine ⟨r.iv, by rw [HN.out]; rfl, ?_, ?_⟩
    · rw [e]; exact HH.out
    · rw [e]; exact Fz.refl _ _ _ _
  | cons x xs =>
    rw [hi] at hq hiv
    rcases hq with hq | ⟨g, o, rfl, hg, hgP, hc, hcell⟩
    · cases hq
    have hx0 : w.cell? ⟨g, o, none⟩ = some (.int .i64 x) := by
      have := hcell 0 x rfl
      rw [Nat.add_zero] at this
      rw [← this]
      exact World.cell?_of_block (a := ⟨g, o, none⟩) (h.kp g hg hgP)
    obtain ⟨cc, rfl⟩ : ∃ cc, c = cc + 1 := ⟨c - 1, by simp at hc; omega⟩
    have c1' : w.cell? ⟨X.P, 1, none⟩ = some (.slice (some ⟨g, o, none⟩) (xs.length + 1) (cc + 1)) := by rw [c1]; show some r.iv = _; rw [hiv]; rfl
    have HN : Hid (r.s.inp = x :: xs) := hi
    have HC : Hid (∀ j y, (x :: xs)[j]? = some y → X.w0.cell? ⟨g, o + j, none⟩ = some (.int .i64 y)) := hcell
    have HG : Hid (g < X.w0.heap.size ∧ g ≠ X.P ∧ xs.length ≤ cc) := ⟨hg, hgP, by simp at hc; omega⟩
    obtain ⟨m, hm⟩ : ∃ m, m = xs.length := ⟨_, rfl⟩
    rw [← hm] at c1'
    have HM : Hid (m = xs.length) := hm
    have hmc : m ≤ cc := by rw [hm]; exact HG.out.2.2
    clear h c1 hiv hi hcell hc hg hgP hm
    go_enter Tryz.func199, Tryz.ntmps199
    go_wp2
    · go_ret
      have hm := HM.out
      refine tk_fin HH.out HN.out ⟨_, _, by rw [hm], .inl ?_⟩
      have : xs.length = 0 := by omega
      exact List.length_eq_zero_iff.1 this
    · go_ret
      have hm := HM.out
      refine tk_fin HH.out HN.out ⟨_, _, by rw [hm], .inr ⟨g, o + 1, rfl, HG.out.1, HG.out.2.1, HG.out.2.2, fun j y hy => ?_⟩⟩
      have := HC.out (j + 1) y hy
      rw [show o + 1 + j = o + (j + 1) by omega]
      exact this
def Rs.tell1 (r : Rs) (ov : Value) (n : Int) : Rs := { r with ov := ov, s := { r.s with out := r.s.out ++ [n] } }
/-- What telling a number leaves. -/
def TlP (X : Cx) (w : World) (r : Rs) (d : Nat) (n : Int) (e : Ending) (w' : World) : Prop :=
  (200 ≤ r.s.out.length ∧ e = endE 7 ∧ w' = w) ∨ (r.s.out.length < 200 ∧ e = .returned (.tuple #[]) ∧ ∃ ov, St X.w0 X.P X.fv w' (r.tell1 ov n) d ∧ Fz X.P NoE w r w' (r.tell1 ov n))
/-- The row of what was told has grown. -/
theorem tl_fin {X : Cx} {w w1 : World} {r : Rs} {d : Nat} {n : Int} {g cap m : Nat} (h : St X.w0 X.P X.fv w r d) (hm : m = r.s.out.length) (h2 : m < 200) (A : Obj) (hown : w1.ownsRow X.w0.heap.size 2 1 (.slice (some ⟨g, 0, none⟩) (m + 1) cap) (m + 1) (ints r.s.out ++ [.int .i64 n])) (hgr : (w.alloc A).grownBy w1 r.ov.ownBlock) (hg : r.ov.ownBlock = some g ∨ g = w.heap.size + 1) :
    TlP X w r d n (.returned (.tuple #[])) (w1.setCell ⟨X.P, 2, none⟩ (.slice (some ⟨g, 0, none⟩) (m + 1) cap)) := by
  have hsz1 : w.heap.size + 1 ≤ w1.heap.size := by have := hgr.size; simpa using this
  have hov : ∀ i, r.ov.ownBlock = some i → X.w0.heap.size ≤ i ∧ i < w.heap.size := fun i hi => h.out.lt i hi
  have hk : ∀ b, b < w.heap.size → r.ov.ownBlock ≠ some b → w1.heap[b]? = w.heap[b]? := fun b hb hne => by
    rw [hgr.block b (by simp; omega) (fun e => hne e.symm), row_eq_alloc hb]
  have hPg : X.P ≠ g := by
    have := h.lt
    have := h.ltP
    rcases hg with hg | rfl
    · have := (hov g hg).1; omega
    · omega
  have hP1 : w1.heap[X.P]? = some (.cells #[X.fv, r.iv, r.ov, .int .i64 (r.s.fuel : Int), .int .i64 (d : Int)] 60) := by
    rw [hk X.P h.ltP (fun e => by have := (hov _ e).1; have := h.lt; omega)]
    exact h.pb
  have hoth : ∀ b, b ≠ X.P → (w1.setCell ⟨X.P, 2, none⟩ (.slice (some ⟨g, 0, none⟩) (m + 1) cap)).heap[b]? = w1.heap[b]? := fun b hb => heap_setCell_other _ _ _ _ hb
  have hsz : (w1.setCell ⟨X.P, 2, none⟩ (.slice (some ⟨g, 0, none⟩) (m + 1) cap)).heap.size = w1.heap.size := by simp
  refine .inr ⟨by omega, rfl, .slice (some ⟨g, 0, none⟩) (m + 1) cap, ?_, ?_⟩
  · refine ⟨h.lt, by rw [hsz]; have := h.le; omega, fun b h1 h2 => ?_, ?_, h.inp, ?_, ?_, h.alen, ?_, h.lo, h.nd, h.few, ?_, h.deep⟩
    · rw [hoth b h2, hk b (Nat.lt_of_lt_of_le h1 h.le) (fun e => by have := (hov _ e).1; omega)]
      exact h.kp b h1 h2
    · exact heap_setCell_same _ _ _ _ _ _ hP1
    · have e1 : (r.tell1 (.slice (some ⟨g, 0, none⟩) (m + 1) cap) n).s.out = r.s.out ++ [n] := rfl
      have e2 : (r.s.out ++ [n]).length = m + 1 := by rw [hm]; simp
      rw [e1, e2, show ints (r.s.out ++ [n]) = ints r.s.out ++ [.int .i64 n] by simp [ints]]
      exact own_at hown (fun i hi => hoth i (fun e => hPg (by rw [← e]; injection hi with hi; exact hi.symm)))
    · intro i hi
      have e : i = g := by injection hi with hi; exact hi.symm
      subst e
      rcases hg with hg | rfl
      · exact h.apart i hg
      · intro hmem
        obtain ⟨p, hp, e⟩ := List.mem_map.1 hmem
        obtain ⟨j, hj⟩ := List.getElem?_of_mem hp
        obtain ⟨l, _, _, _, a4⟩ := h.arr j p.1 p.2 hj
        have := (Array.getElem?_eq_some_iff.1 a4).1
        omega
    · intro i b k hi
      obtain ⟨l, a1, a2, a3, a4⟩ := h.arr i b k hi
      refine ⟨l, a1, a2, a3, ?_⟩
      have hmem : b ∈ r.ab.map (·.1) := List.mem_map.2 ⟨(b, k), List.mem_of_getElem? hi, rfl⟩
      rw [hoth b (h.ne hmem), hk b (Array.getElem?_eq_some_iff.1 a4).1 (fun e => h.apart b e hmem)]
      exact a4
    · show (r.s.out ++ [n]).length ≤ 200
      simp
      omega
  · refine ⟨hgr.os, hgr.tape, hgr.output, by rw [hsz]; omega, fun b hb hx _ => ?_, List.prefix_rfl, fun b hx hnx => ?_⟩
    · rw [hoth b (fun e => hx (.inl e)), hk b hb (fun e => hx (.inr (.inr e)))]
    · rcases hx with hx | hx | hx
      · exact absurd (.inl hx) hnx
      · exact absurd (.inr (.inl hx)) hnx
      · have e : b = g := by injection hx with hx; exact hx.symm
        subst e
        rcases hg with hg | rfl
        · exact absurd (.inr (.inr hg)) hnx
        · omega
set_option maxRecDepth 100000 in
set_option maxHeartbeats 1000000 in
theorem tell_any (X : Cx) (w : World) (r : Rs) (d : Nat) (n : Int) (h : St X.w0 X.P X.fv w r d) : Calls Tryz.prog 141 #[ptr X.P, .int .i64 n] w (TlP X w r d n) := by
  obtain ⟨q, c, hov⟩ := own_slice h.out
  have c2 : w.cell? ⟨X.P, 2, none⟩ = some r.ov := cell_at (i := 2) h.pb rfl
  have f2 := row_free h.pb 2
  rw [hov] at c2
  have HH : Hid (St X.w0 X.P X.fv w r d) := h
  have hP := h.ltP
  have ht := h.told
  obtain ⟨m, hm⟩ : ∃ m, m = r.s.out.length := ⟨_, rfl⟩
  have HM : Hid (m = r.s.out.length) := hm
  have HV : Hid (r.ov = .slice q m c) := by rw [hm]; exact hov
  rw [← hm] at c2 ht
  have HO : Hid (w.ownsRow X.w0.heap.size 2 1 (.slice q m c) m (ints r.s.out)) := by have := h.out; rw [hov, ← hm] at this; exact this
  clear h hov hm
  by_cases h2 : 200 ≤ m
  · go_enter Tryz.func141, Tryz.ntmps141
    go_wp2_with (go_at_call 54; refine (rthrow_any _ _).mono ?_; rintro e w' ⟨rfl, rfl⟩)
    exact ⟨rfl, .inl ⟨by have := HM.out; omega, rfl, rfl⟩⟩
  · obtain ⟨i0, hi0, hz0, hs0, hb0⟩ := info_parts info2
    have HO3 : Hid ((w.alloc (.cells #[.int .i64 n] 2)).ownsRow X.w0.heap.size 2 1 (.slice q m c) m (ints r.s.out)) := HO.out.alloc _
    have HN3 : Hid (∀ (i : Nat) (x : Value), ([.int .i64 n] : List Value)[i]? = some x → (w.alloc (.cells #[.int .i64 n] 2)).cell? ((⟨w.heap.size, 0, none⟩ : Addr).add i) = some x) := World.news_of_block (cs := #[.int .i64 n]) (t := 2) (fr := (0, 0)) (heap_alloc_last w _)
    have H13 : Hid (∀ u ∈ ([.int .i64 n] : List Value), u.oneCell' = true) := fun u hu => by simp at hu; subst hu; rfl
    have HZ3 : Hid (X.w0.heap.size ≤ (w.alloc (.cells #[.int .i64 n] 2)).heap.size) := by have := HH.out.le; show _ ≤ _; simp; omega
    go_enter Tryz.func141, Tryz.ntmps141
    go_wp2_with (at_builtin; refine wpList_append_lies _ rfl _ _ 22 rfl X.w0.heap.size 2 i0 _ 1 8 Tryz.underlying22 hi0 hz0 hs0 hb0 rfl (by decide) _ m _ rfl HO3.out ⟨w.heap.size, 0, none⟩ 1 1 [.int .i64 n] rfl rfl HN3.out H13.out (by decide) (by unfold maxLen; omega) (by omega) HZ3.out (w.heap.size + 1) (by simp) ?_)
    intro g5 cap5 w5 hown5 hgrow5 hg5 hlt5
    have hP5 : w5.heap[X.P]? = some (.cells #[X.fv, r.iv, r.ov, .int .i64 (r.s.fuel : Int), .int .i64 (d : Int)] 60) := by
      rw [hgrow5.block X.P (by simp; omega) (fun e => ?_), row_eq_alloc hP]
      · exact HH.out.pb
      · have := (HO.out.lt X.P e.symm).1
        have := HH.out.lt
        omega
    have c5 := cell_at (i := 2) hP5 rfl
    have f5 := row_free hP5 2
    have HFin : Hid (TlP X w r d n (.returned (.tuple #[])) (w5.setCell ⟨X.P, 2, none⟩ (.slice (some ⟨g5, 0, none⟩) (m + 1) cap5))) := tl_fin HH.out HM.out (by omega) _ hown5 (by rw [HV.out]; exact hgrow5) (by rw [HV.out]; exact hg5)
    clear hown5 hgrow5 hg5 hlt5 hP5
    go_wp2
    go_end0
    exact HFin.out
end Go.Proofs.YtnfhpdbbfejioaaGreatDoor
