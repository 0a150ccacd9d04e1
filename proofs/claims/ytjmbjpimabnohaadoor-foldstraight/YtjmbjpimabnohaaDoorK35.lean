/- GP -/
import Derived.Test.YtjmbjpimabnohaaDoorK34
namespace Go.Proofs.YtjmbjpimabnohaaDoor.Mid
set_option linter.unusedVariables false
set_option linter.unusedSimpArgs false
open Go Go.RowKit
def DdP (w : World) (y : ByteArray) (tl : List Int) (z : Int) (e : Ending) (w' : World) : Prop := ∃ v' l', e = .returned v' ∧ FlM w' w.heap.size v' y tl l' ∧ Below w.heap.size w w' ∧ Lef tl.length z l'
structure DnJ (w0 Wc : World) (y : ByteArray) (tq : Option Addr) (nt tc sb sc ns b3 Nb mb ib bb gb rn : Nat) (tl : List Int) (l : List Ms) (ps : List Int) (gs : Array Value) (i : Nat) (kept : List Ms) (W : World) : Prop where
  bel : Below w0.heap.size w0 W
  sz : Wc.heap.size ≤ W.heap.size
  r : W.heap[w0.heap.size + 1]? = some fnZ
  k : W.heap[b3]? = some (.cells #[ptr Nb] 125)
  nd : W.heap[Nb]? = some (ndO y (.slice tq nt tc) (.slice (some ⟨sb, 0, none⟩) ns sc) mb ib bb gb ns)
  gn : W.heap[gb]? = some (.cells gs 4)
  t : W.ownsRow (w0.heap.size + 2) 3 1 (.slice tq nt tc) nt (ints tl)
  kp : kept = keptA l ps rn i
structure DnE (w0 Wc : World) (tq : Option Addr) (sb b3 Nb gb : Nat) : Prop where
  s : w0.heap.size + 2 ≤ sb ∧ sb < Wc.heap.size
  k : b3 < Wc.heap.size ∧ b3 ≠ sb
  n : Nb < Wc.heap.size ∧ Nb ≠ sb
  g : gb < Wc.heap.size ∧ gb ≠ sb
  t : ∃ tb, tq = some ⟨tb, 0, none⟩ ∧ tb < Wc.heap.size ∧ tb ≠ sb
theorem DnJ.stable {w0 Wc : World} {y : ByteArray} {tq : Option Addr} {nt tc sb sc ns b3 Nb mb ib bb gb rn : Nat} {tl : List Int} {l : List Ms} {ps : List Int} {gs : Array Value} {i : Nat} {kept : List Ms} {W W' : World} (E : DnE w0 Wc tq sb b3 Nb gb) (h : DnJ w0 Wc y tq nt tc sb sc ns b3 Nb mb ib bb gb rn tl l ps gs i kept W) (hk : Ko0 Wc.heap.size sb W W') : DnJ w0 Wc y tq nt tc sb sc ns b3 Nb mb ib bb gb rn tl l ps gs i kept W' := by
  have hs := E.s
  obtain ⟨tb, e1, t1, t2⟩ := E.t
  refine ⟨⟨hk.os.trans h.bel.os, hk.tape.trans h.bel.tape, hk.output.trans h.bel.output, Nat.le_trans h.bel.size hk.size, fun b hb => ?_⟩, Nat.le_trans h.sz hk.size, ?_, ?_, ?_, ?_, ?_, h.kp⟩
  · rw [hk.blk b (by omega) (by omega)]; exact h.bel.block b hb
  · rw [hk.blk _ (by omega) (by omega)]; exact h.r
  · rw [hk.blk _ E.k.1 E.k.2]; exact h.k
  · rw [hk.blk _ E.n.1 E.n.2]; exact h.nd
  · rw [hk.blk _ E.g.1 E.g.2]; exact h.gn
  · refine own_at h.t (fun i hi => ?_)
    rw [e1] at hi
    injection hi with hi
    have hi2 : tb = i := hi
    rw [← hi2]
    exact hk.blk tb t1 t2
set_option maxRecDepth 100000 in
set_option maxHeartbeats 2000000 in
theorem dead_75 (w0 Wc : World) (y : ByteArray) (tq : Option Addr) (nt tc sb sc ns b3 Nb mb ib bb gb rn : Nat) (tl : List Int) (l : List Ms) (ps : List Int) (gs : Array Value) (hgs : ∀ j, j < ns → gs[j]? = some (.bool (goneV ps rn j))) (hns : l.length = ns) (hl : ns ≤ 1000)
    (W : World) (i : Nat) (kept : List Ms) (s : Ms) (cur : Array Value) (hs : l[i]? = some s) (hJ : DnJ w0 Wc y tq nt tc sb sc ns b3 Nb mb ib bb gb rn tl l ps gs i kept W) (hrow : W.heap[sb]? = some (.cells cur 44)) (hc : ∀ o, o < 10 → cur[i * 10 + o]? = (sC s)[o]?) :
    Calls Tryd.prog 75 #[.int .i64 (i : Int), ptr b3] W (ClPost Wc sb i cur kept (DnJ w0 Wc y tq nt tc sb sc ns b3 Nb mb ib bb gb rn tl l ps gs) W) := by
  have hil : i < ns := by rw [← hns]; exact (List.getElem?_eq_some_iff.1 hs).1
  have HX : Hid (ClPost Wc sb i cur kept (DnJ w0 Wc y tq nt tc sb sc ns b3 Nb mb ib bb gb rn tl l ps gs) W (.returned (.bool (goneV ps rn i))) W) := by
    refine ⟨goneV ps rn i, s, cur, rfl, ⟨Nat.le_refl _, fun _ _ _ => rfl⟩, hrow, rfl, hc, fun _ _ => rfl, fun hb => ⟨hJ.bel, hJ.sz, hJ.r, hJ.k, hJ.nd, hJ.gn, hJ.t, ?_⟩, fun hb => ⟨hJ.bel, hJ.sz, hJ.r, hJ.k, hJ.nd, hJ.gn, hJ.t, ?_⟩⟩
    · rw [hJ.kp, keptA, hb]; simp
    · rw [hJ.kp, keptA, hb, hs]; simp
  have c0 : W.cell? ⟨b3, 0, none⟩ = some (ptr Nb) := cell_at (i := 0) hJ.k rfl
  have c7 : W.cell? ⟨Nb, 7, none⟩ = some (.slice (some ⟨gb, 0, none⟩) ns ns) := cell_at (i := 7) hJ.nd rfl
  have cg : W.cell? ⟨gb, i, none⟩ = some (.bool (goneV ps rn i)) := cell_at hJ.gn (hgs i hil)
  have hl9 : (i : Int) < (ns : Int) := by omega
  generalize ClPost Wc sb i cur kept (DnJ w0 Wc y tq nt tc sb sc ns b3 Nb mb ib bb gb rn tl l ps gs) W = G at HX ⊢
  generalize goneV ps rn i = t at HX cg
  clear hJ hrow hc hs hgs hns
  go_enter Tryd.func75, Tryd.ntmps75
  go_wp2
  exact HX.out
abbrev lstD (c1 c3 c5 c9 c10 c11 a12 : Bool) : Array Bool := #[true, c1, true, c3, true, c5, true, true, true, c9, c10, c11, a12, false]
abbrev frD (B ns : Nat) (v0 v5 svv x13 x15 x17 x21 x22 x23 x3 : Value) : Act := { tmps := #[v0, ptr B, ptr (B + 1), x3, undef, undef, v0, v5, v5, .bool true, .bool false, undef, v5, x13, v5, x15, v5, x17, .pointer (some ⟨B, 3, none⟩), svv, .int .i64 (ns : Int), x21, x22, x23, undef, undef, undef, undef, undef, undef, undef, undef, undef, undef, undef, undef, undef, undef, undef, undef, undef, undef, undef, undef, undef, undef, undef, undef, undef, undef, undef, undef, undef, undef, undef], defers := [] }
theorem res50 (tmps : Array Value) (w : World) (g : Nat) (a b c d : Value) (hp : tmps.getD 2 undef = .pointer (some ⟨g, 0, none⟩)) (hg : w.heap[g]? = some (.cells #[a, b, c, d] 35)) :
    (results Tryd.f50 tmps).run Tryd.prog w = .ok (.agg #[a, b, c, d]) w :=
  results_cell_row (p := 2) (ty := 35) Tryd.results50 _ _ g 35 _ (0, 0) _ hp hg Tryd.underlying35 rfl (by kernel_rfl)
set_option maxRecDepth 100000 in
set_option maxHeartbeats 8000000 in
theorem dead_50 (w : World) (B : Nat) (v : Value) (y : ByteArray) (tl : List Int) (l : List Ms) (z : Int) (h : FlM w B v y tl l) (hff : FfE w) (hk : KnL tl.length z l) (ht1 : ∀ x ∈ tl, x = 1) (ht : tl.length ≤ 64) (hle : l.length ≤ 1000) : Calls Tryd.prog 50 #[v] w (DdP w y tl z) := by
  obtain ⟨tq, tc, sq, sc, rfl⟩ := h.parts
  obtain ⟨nt, hnt⟩ : ∃ nt, tl.length = nt := ⟨_, rfl⟩
  obtain ⟨ns, hns⟩ : ∃ ns, l.length = ns := ⟨_, rfl⟩
  obtain ⟨env, ps, r, hl, hps, hpb, hp0, hr0, hr1, hz, hI⟩ := hk.ex
  obtain ⟨rn, rfl⟩ : ∃ rn : Nat, r = (rn : Int) := ⟨r.toNat, by omega⟩
  have hnl : ps.length + 1 = ns := by rw [← hns, hl]; simp
  rw [hns] at hle
  rw [hnt] at hpb hr1
  have hSt : ∀ s ∈ l, Strt nt s := fun s hs => by
    rw [hl] at hs
    rcases List.mem_append.1 hs with hs | hs
    · obtain ⟨p, hp, rfl⟩ := List.mem_map.1 hs
      exact ⟨.inl rfl, fun _ => hpb p hp, fun e => absurd rfl e, fun e => by cases e⟩
    · simp at hs
      subst hs
      exact ⟨.inr (.inr (.inr rfl)), fun e => absurd rfl e, fun _ => ⟨hr0, hr1⟩, fun e => by cases e⟩
  have hNs : ∀ s ∈ l, Nst nt s := fun s hs => by
    rw [hl] at hs
    rcases List.mem_append.1 hs with hs | hs
    · obtain ⟨p, hp, rfl⟩ := List.mem_map.1 hs
      exact ⟨.inl rfl, fun _ => hpb p hp, fun e => (by cases e)⟩
    · simp at hs
      subst hs
      exact ⟨.inr rfl, fun e => (by cases e), fun _ => ⟨hr0, hr1⟩⟩
  obtain ⟨W2, hW2⟩ : ∃ W2, W2 = (w.alloc (.cells #[.string y, .int .i64 0, .slice tq nt tc, .slice sq ns sc] 35)).alloc fnZ := ⟨_, rfl⟩
  have hb2 : Below w.heap.size w W2 := by rw [hW2]; exact (al_bel _ _).trans ((al_bel (w.alloc _) _).mono (by simp))
  have hz2 : W2.heap.size = w.heap.size + 2 := by rw [hW2]; simp
  have k0 : W2.heap[w.heap.size]? = some (.cells #[.string y, .int .i64 0, .slice tq nt tc, .slice sq ns sc] 35) := by rw [hW2, row_eq_alloc (by simp)]; exact heap_alloc_last _ _
  have k1 : W2.heap[w.heap.size + 1]? = some fnZ := by
    have e : (w.alloc (.cells #[.string y, .int .i64 0, .slice tq nt tc, .slice sq ns sc] 35)).heap.size = w.heap.size + 1 := by simp
    rw [hW2, ← e]; exact heap_alloc_last _ _
  rw [hnt, hns] at h ⊢
  have HOw : Hid (Calls Tryd.prog 64 #[.agg #[.string y, .int .i64 0, .slice tq nt tc, .slice sq ns sc]] W2 (OnP W2 y tl l)) := own_any W2 B _ y tl l (h.below hb2) (by omega) (by rw [hns]; omega)
  have HW2 : Hid (Below w.heap.size w W2 ∧ W2.heap.size = w.heap.size + 2 ∧ W2.heap[w.heap.size]? = some (.cells #[.string y, .int .i64 0, .slice tq nt tc, .slice sq ns sc] 35) ∧ W2.heap[w.heap.size + 1]? = some fnZ) := ⟨hb2, hz2, k0, k1⟩
  have HR : Hid (tl.length = nt ∧ l.length = ns ∧ (∀ s ∈ l, Strt nt s) ∧ FfE w ∧ nt ≤ 64 ∧ (∀ s ∈ l, Nst nt s)) := ⟨hnt, hns, hSt, hff, by rw [← hnt]; exact ht, hNs⟩
  have HGd : Hid (l = ps.map (fun p => cn p (env p)) ++ [rt (rn : Int)] ∧ ps.Pairwise (· < ·) ∧ (∀ p ∈ ps, 0 ≤ p ∧ p < nt) ∧ (∀ p, p ∉ ps → env p = 0) ∧ rn < nt ∧ env (rn : Int) = z ∧ (∀ p, I64 (env p)) ∧ (∀ x ∈ tl, x = 1) ∧ ps.length + 1 = ns) := ⟨hl, hps, hpb, hp0, by omega, hz, hI, ht1, hnl⟩
  have hmm : ∀ W : World, (Instr.makeMap 126 none).run Tryd.prog W = .ok (.map (some W.heap.size)) (W.alloc (.map #[] 0)) := fun W => by simp [Instr.makeMap, go_sem]
  have hmk := mk_bools ns (by omega)
  have hmf : ∀ (fn : Fn) (first cap : Array Value) (w : World), (Instr.makeFunc fn first cap).run Tryd.prog w = .ok (.func fn first cap) w := fun _ _ _ _ => rfl
  have u0 := cell_at (i := 0) k0 rfl
  have u1 := cell_at (i := 1) k0 rfl
  have u2 := cell_at (i := 2) k0 rfl
  have u3 := cell_at (i := 3) k0 rfl
  rw [hW2] at u0 u1 u2 u3
  generalize hG : DdP w y tl z = G
  have HG : Hid (DdP w y tl z = G) := hG
  clear h hff hb2 hz2 k0 k1 hG hnt hns ht1 ht hl hps hpb hp0 hr0 hr1 hz hI hnl hSt hNs hk
  go_enter Tryd.func50, Tryd.ntmps50
  go_wp2_with (go_at_call 64; fail)
  rw [← hW2]
  clear hW2 u0 u1 u2 u3
  refine HOw.out.mono ?_
  rintro e w3 ⟨v3, rfl, hf3, hb3⟩
  obtain ⟨tq3, tc3, sq3, sc3, rfl⟩ := hf3.parts
  rw [HR.out.1, HR.out.2.1] at hf3 ⊢
  obtain ⟨k0, k1⟩ := boxes (w := w) hb3 HW2.out.2.2.1 HW2.out.2.2.2
  obtain ⟨W4, hW4⟩ : ∃ W4, W4 = (((w3.setCell ⟨w.heap.size, 0, none⟩ (.string y)).setCell ⟨w.heap.size, 1, none⟩ (.int .i64 0)).setCell ⟨w.heap.size, 2, none⟩ (.slice tq3 nt tc3)).setCell ⟨w.heap.size, 3, none⟩ (.slice sq3 ns sc3) := ⟨_, rfl⟩
  have hI4 : RdI w y tq3 nt tc3 sq3 ns sc3 tl l W4 := by rw [hW4]; exact RdI.of (HW2.out.1.trans (hb3.mono HW2.out.1.size)) k0 k1 (by rw [← HW2.out.2.1]; exact hf3)
  have HI4 : Hid (RdI w y tq3 nt tc3 sq3 ns sc3 tl l W4) := hI4
  have HSo : Hid (Calls Tryd.prog 65 #[.agg #[.string y, .int .i64 0, .slice tq3 nt tc3, .slice sq3 ns sc3]] W4 (BtP W4 true)) := sound_any W4 _ _ y tl l hI4.fl (HR.out.2.2.2.1.below hI4.bel) (by rw [HR.out.1]; exact HR.out.2.2.1) (by rw [HR.out.2.1]; omega)
  have c0 := cell_at (i := 0) k0 rfl
  have c1 := cell_at (i := 1) k0 rfl
  have c2 := cell_at (i := 2) k0 rfl
  have c3 := cell_at (i := 3) k0 rfl
  have f0 := row_free k0 0
  have f1 := row_free k0 1
  have f2 := row_free k0 2
  have f3 := row_free k0 3
  have a0 := cell_at (i := 0) hI4.b0 rfl
  have a1 := cell_at (i := 1) hI4.b0 rfl
  have a2 := cell_at (i := 2) hI4.b0 rfl
  have a3 := cell_at (i := 3) hI4.b0 rfl
  rw [hW4] at a0 a1 a2 a3
  clear hf3 hb3 k0 k1 hI4 HOw
  go_wp2_with (go_at_call 65; fail)
  rw [← hW4]
  clear hW4 c0 c1 c2 c3 f0 f1 f2 f3 a0 a1 a2 a3
  refine HSo.out.mono ?_
  rintro e w5 ⟨rfl, hb5⟩
  have HI5 : Hid (RdI w y tq3 nt tc3 sq3 ns sc3 tl l w5) := HI4.out.below hb5
  have HIdl : Hid (∀ W, Below w5.heap.size w5 W → Calls Tryd.prog 72 #[.agg #[.string y, .int .i64 0, .slice tq3 nt tc3, .slice sq3 ns sc3]] W (WxP W)) := fun W hb => by
    have hI := HI5.out.below hb
    exact idle_72 W _ _ y tl l hI.fl (HR.out.2.2.2.1.below hI.bel) (by rw [HR.out.1]; exact HR.out.2.2.2.2.2) (by rw [HR.out.2.1]; omega) (by rw [HR.out.1]; have := HGd.out.2.2.2.2.1; omega) (by rw [HR.out.1]; exact HR.out.2.2.2.2.1)
  have HRm : Hid (∀ W, Calls Tryd.prog 73 #[.agg #[.string y, .int .i64 0, .slice tq3 nt tc3, .slice sq3 ns sc3]] W (WdP W)) := fun W => room_73 W y tq3 nt tc3 _ (by have := HGd.out.2.2.2.2.1; omega) HR.out.2.2.2.2.1
  have HK : Hid (∀ W, Below w5.heap.size w5 W → W.cell? ⟨w.heap.size, 0, none⟩ = some (.string y) ∧ W.cell? ⟨w.heap.size, 1, none⟩ = some (.int .i64 0) ∧ W.cell? ⟨w.heap.size, 2, none⟩ = some (.slice tq3 nt tc3) ∧ W.cell? ⟨w.heap.size, 3, none⟩ = some (.slice sq3 ns sc3)) := fun W hb => by
    have hx := (HI5.out.below hb).b0
    exact ⟨cell_at (i := 0) hx rfl, cell_at (i := 1) hx rfl, cell_at (i := 2) hx rfl, cell_at (i := 3) hx rfl⟩
  clear hb5 HSo HI4
  go_upto_region 4 with fail
  go_cut [3] (fun v3 wx => ∃ b3, v3 = ptr b3 ∧ Hid (DnS w5 y (.slice tq3 nt tc3) (.slice sq3 ns sc3) ns b3 wx))
  case first =>
    refine wp_region_held_drew (S := fun w' => w'.cell? ⟨w.heap.size, 0, none⟩ = some (.string y) ∧ w'.cell? ⟨w.heap.size, 1, none⟩ = some (.int .i64 0) ∧ w'.cell? ⟨w.heap.size, 2, none⟩ = some (.slice tq3 nt tc3) ∧ w'.cell? ⟨w.heap.size, 3, none⟩ = some (.slice sq3 ns sc3)) (by kernel_rfl) ?_ (fun hHeld => ?_)
    · exact HK.out _ (Below.refl _ _).drew
    refine wpAnyH_take (i := 0) (v := ?val0) rfl (by kernel_rfl) (by kernel_rfl) (by kernel_rfl) (fun _ _ _ h => h) (Or.inl ⟨by rfl, ?hy0⟩) hHeld ?go0
    case hy0 => (intro w hSw; (try dsimp only at hSw); go_simp; try rfl)
    case go0 =>
    simp only [Act.put, List.setIfInBounds_toArray, List.set_cons_zero, List.set_cons_succ, List.getElem_toArray, List.getElem_cons_zero, List.getElem_cons_succ]
    refine wpAnyH_take (i := 2) (v := ?val2) rfl (by kernel_rfl) (by kernel_rfl) (by kernel_rfl) (fun _ _ _ h => h) (Or.inl ⟨by rfl, ?hy2⟩) hHeld ?go2
    case hy2 => (intro w hSw; (try dsimp only at hSw); go_simp; try rfl)
    case go2 =>
    simp only [Act.put, List.setIfInBounds_toArray, List.set_cons_zero, List.set_cons_succ, List.getElem_toArray, List.getElem_cons_zero, List.getElem_cons_succ]
    refine wpAnyH_take (i := 4) (v := ?val4) rfl (by kernel_rfl) (by kernel_rfl) (by kernel_rfl) (fun _ _ _ h => h) (Or.inl ⟨by rfl, ?hy4⟩) hHeld ?go4
    case hy4 => (intro w hSw; (try dsimp only at hSw); go_simp; try rfl)
    case go4 =>
    simp only [Act.put, List.setIfInBounds_toArray, List.set_cons_zero, List.set_cons_succ, List.getElem_toArray, List.getElem_cons_zero, List.getElem_cons_succ]
    refine wpAnyH_take (i := 6) (v := ?val6) rfl (by kernel_rfl) (by kernel_rfl) (by kernel_rfl) (fun _ _ _ h => h) (Or.inl ⟨by rfl, ?hy6⟩) hHeld ?go6
    case hy6 => (intro w hSw; (try dsimp only at hSw); go_simp; try rfl)
    case go6 =>
    simp only [Act.put, List.setIfInBounds_toArray, List.set_cons_zero, List.set_cons_succ, List.getElem_toArray, List.getElem_cons_zero, List.getElem_cons_succ]
    refine wpAnyH_take (i := 7) (v := ?val7) rfl (by kernel_rfl) (by kernel_rfl) (by kernel_rfl) (fun _ _ _ h => h) (Or.inl ⟨by rfl, ?hy7⟩) hHeld ?go7
    case hy7 => (intro w hSw; (try dsimp only at hSw); go_simp; try rfl)
    case go7 =>
    simp only [Act.put, List.setIfInBounds_toArray, List.set_cons_zero, List.set_cons_succ, List.getElem_toArray, List.getElem_cons_zero, List.getElem_cons_succ]
    refine wpAnyH_take (i := 8) (v := ?val8) rfl (by kernel_rfl) (by kernel_rfl) (by kernel_rfl) (fun _ _ _ h => h) (Or.inl ⟨by rfl, ?hy8⟩) hHeld ?go8
    case hy8 => (intro w hSw; (try dsimp only at hSw); go_simp; try rfl)
    case go8 =>
    simp only [Act.put, List.setIfInBounds_toArray, List.set_cons_zero, List.set_cons_succ, List.getElem_toArray, List.getElem_cons_zero, List.getElem_cons_succ]
    refine wpAnyH_meet (stop := lstD true true true true true true true) (n := 1) (I := fun listed a' w' => ∃ c1 c3 c5 c9 c10 c11 a12 x13 x15 x17 x21 x22 x23 x3, listed = lstD c1 c3 c5 c9 c10 c11 a12 ∧ a' = frD w.heap.size ns (.agg #[.string y, .int .i64 0, .slice tq nt tc, .slice sq ns sc]) (.agg #[.string y, .int .i64 0, .slice tq3 nt tc3, .slice sq3 ns sc3]) (.slice sq3 ns sc3) x13 x15 x17 x21 x22 x23 x3 ∧ DI w5 y (.slice tq3 nt tc3) (.slice sq3 ns sc3) ns c1 c3 c5 c9 c10 c11 a12 x13 x15 x17 x21 x22 x23 x3 w') rfl ?step ?stop ?cnt _ _ _ _ ⟨false, false, false, false, false, false, false, undef, undef, undef, undef, undef, undef, undef, by kernel_rfl, rfl, ?beg⟩ (by kernel_rfl) (by first | omega | decide)
    case beg => exact ⟨(Below.refl _ _).drew, fun e => (by cases e), fun e => (by cases e), fun e => (by cases e), fun e => (by cases e), fun e => (by cases e), fun e => (by cases e), fun e => (by cases e)⟩
    case cnt =>
      rintro listed a' w' ⟨c1, c3, c5, c9, c10, c11, a12, x13, x15, x17, x21, x22, x23, x3, rfl, _, _⟩ hc
      revert hc
      cases c1 <;> cases c3 <;> cases c5 <;> cases c9 <;> cases c10 <;> cases c11 <;> cases a12 <;> first | exact fun _ => rfl | exact fun h => absurd h (by decide)
    case step =>
      rintro listed a' w' ⟨c1, c3, c5, c9, c10, c11, a12, x13, x15, x17, x21, x22, x23, x3, rfl, rfl, hI⟩ hs
      refine ⟨?_, fun i hi => ?_⟩
      · have o5 : c5 = true → c3 = true := fun e => (hI.e5 e).1
        have o6 : c10 = true → c1 = true ∧ c3 = true ∧ c5 = true ∧ c9 = true := fun e => ⟨(hI.e10 e).1, (hI.e10 e).2.1, (hI.e10 e).2.2.1, (hI.e10 e).2.2.2.1⟩
        have o7 : c11 = true → c10 = true := fun e => (hI.e11 e).1
        clear hI
        revert hs o5 o6 o7
        cases c1 <;> cases c3 <;> cases c5 <;> cases c9 <;> cases c10 <;> cases c11 <;> cases a12 <;> first | exact fun _ _ _ _ => by decide +kernel | exact fun h _ _ _ => absurd rfl h | exact fun _ h _ _ => absurd (h rfl) (by decide) | exact fun _ _ h _ => absurd (h rfl) (by decide) | exact fun _ _ _ h => absurd (h rfl) (by decide)
      · obtain ⟨h0, o', ho', -⟩ := mem_ready.1 hi
        have h14 : i < 14 := (Array.getElem?_eq_some_iff.1 ho').1
        clear ho' o'
        have hcs : i = 1 ∨ i = 3 ∨ i = 5 ∨ i = 9 ∨ i = 10 ∨ i = 11 ∨ i = 12 ∨ i = 13 := by
          have hd : ∀ j : Fin 14, (j.val = 1 ∨ j.val = 3 ∨ j.val = 5 ∨ j.val = 9 ∨ j.val = 10 ∨ j.val = 11 ∨ j.val = 12 ∨ j.val = 13) ∨ (lstD c1 c3 c5 c9 c10 c11 a12).getD j.val true = true := by
            cases c1 <;> cases c3 <;> cases c5 <;> cases c9 <;> cases c10 <;> cases c11 <;> cases a12 <;> decide +kernel
          rcases hd ⟨i, h14⟩ with h | h
          · exact h
          · rw [h0] at h; cases h
        clear h14
        rcases hcs with rfl | rfl | rfl | rfl | rfl | rfl | rfl | rfl
        · have q : c1 = false := h0
          refine wpOp_step (o := { dst := some 13, op := Op.makeMap 126 none, type := 126, pos := "dead.go:14", after := #[], guard := none }) rfl (fun K hK => ?_)
          go_simp
          have hI2 := hI.new1 q
          exact hK _ _ ⟨HK.out _ hI2.bel, true, c3, c5, c9, c10, c11, a12, _, x15, x17, x21, x22, x23, x3, rfl, rfl, hI2⟩
        · have q : c3 = false := h0
          refine wpOp_step (o := { dst := some 15, op := Op.call { callee := Callee.value (Operand.func 72), args := #[Operand.tmp 14], argTypes := #[35] }, type := 128, pos := "dead.go:14", after := #[{ on := 2, ground := Ground.data }], guard := none }) rfl (fun K hK => ?_)
          go_simp
          refine (HIdl.out w' hI.bel).mono ?_
          rintro e w1 ⟨b, x, rfl, l1, l2, hb1⟩
          have hI2 := hI.new3 q hb1 b
          exact hK _ _ ⟨HK.out _ hI2.bel, c1, true, c5, c9, c10, c11, a12, x13, _, x17, x21, x22, x23, x3, rfl, rfl, hI2⟩
        · have q : c5 = false := h0
          have q3 : c3 = true := (ready_after hi (o := { dst := some 17, op := Op.call { callee := Callee.value (Operand.func 73), args := #[Operand.tmp 16], argTypes := #[35] }, type := 128, pos := "dead.go:14", after := #[{ on := 4, ground := Ground.data }, { on := 3, ground := Ground.chain }], guard := none }) rfl).2 ⟨3, .chain⟩ (by simp) rfl
          refine wpOp_step (o := { dst := some 17, op := Op.call { callee := Callee.value (Operand.func 73), args := #[Operand.tmp 16], argTypes := #[35] }, type := 128, pos := "dead.go:14", after := #[{ on := 4, ground := Ground.data }, { on := 3, ground := Ground.chain }], guard := none }) rfl (fun K hK => ?_)
          go_simp
          refine (HRm.out w').mono ?_
          rintro e w1 ⟨b, rfl, l1, l2, hb1⟩
          have hI2 := hI.new5 q q3 hb1 l1 l2
          exact hK _ _ ⟨HK.out _ hI2.bel, c1, c3, true, c9, c10, c11, a12, x13, x15, _, x21, x22, x23, x3, rfl, rfl, hI2⟩
        · have q : c9 = false := h0
          refine wpOp_step (o := { dst := some 21, op := Op.makeSlice 120 (Operand.tmp 20) (Operand.tmp 20), type := 120, pos := "dead.go:14", after := #[{ on := 8, ground := Ground.data }, { on := 8, ground := Ground.data }], guard := none }) rfl (fun K hK => ?_)
          have hmw := hmk w'
          go_simp
          have hI2 := hI.new9 q
          exact hK _ _ ⟨HK.out _ hI2.bel, c1, c3, c5, true, c10, c11, a12, x13, x15, x17, _, x22, x23, x3, rfl, rfl, hI2⟩
        · have q : c10 = false := h0
          have ra := (ready_after hi (o := { dst := some 22, op := Op.build 131 #[(0, Operand.tmp 12), (1, Operand.tmp 13), (2, Operand.tmp 15), (3, Operand.tmp 17), (4, Operand.tmp 21)], type := 131, pos := "dead.go:14", after := #[{ on := 0, ground := Ground.data }, { on := 1, ground := Ground.data }, { on := 3, ground := Ground.data }, { on := 5, ground := Ground.data }, { on := 9, ground := Ground.data }], guard := none }) rfl).2
          have q1 : c1 = true := ra ⟨1, .data⟩ (by simp) rfl
          have q3 : c3 = true := ra ⟨3, .data⟩ (by simp) rfl
          have q5 : c5 = true := ra ⟨5, .data⟩ (by simp) rfl
          have q9 : c9 = true := ra ⟨9, .data⟩ (by simp) rfl
          clear ra
          obtain ⟨b13, rfl⟩ := hI.e1 q1
          obtain ⟨b15, rfl⟩ := hI.e3 q3
          obtain ⟨-, b17, rfl, -, -⟩ := hI.e5 q5
          obtain ⟨b21, rfl, -, -⟩ := hI.e9 q9
          have hI2 := hI.new10 q q1 q3 q5 q9
          refine wpOp_step (o := { dst := some 22, op := Op.build 131 #[(0, Operand.tmp 12), (1, Operand.tmp 13), (2, Operand.tmp 15), (3, Operand.tmp 17), (4, Operand.tmp 21)], type := 131, pos := "dead.go:14", after := #[{ on := 0, ground := Ground.data }, { on := 1, ground := Ground.data }, { on := 3, ground := Ground.data }, { on := 5, ground := Ground.data }, { on := 9, ground := Ground.data }], guard := none }) rfl (fun K hK => ?_)
          go_simp
          exact hK _ _ ⟨HK.out _ hI2.bel, c1, c3, c5, c9, true, c11, a12, _, _, _, _, _, x23, x3, rfl, rfl, hI2⟩
        · have q6 : c10 = true := (ready_after hi (o := { dst := some 23, op := Op.box 131 (Operand.tmp 22), type := 125, pos := "dead.go:14", after := #[{ on := 10, ground := Ground.data }], guard := none }) rfl).2 ⟨10, .data⟩ (by simp) rfl
          have e6 := (hI.e10 q6).2.2.2.2
          have hI2 := hI.new11 q6
          subst e6
          refine wpOp_step (o := { dst := some 23, op := Op.box 131 (Operand.tmp 22), type := 125, pos := "dead.go:14", after := #[{ on := 10, ground := Ground.data }], guard := none }) rfl (fun K hK => ?_)
          go_simp
          exact hK _ _ ⟨HK.out _ hI2.bel, c1, c3, c5, c9, c10, true, a12, x13, x15, x17, x21, _, _, x3, rfl, rfl, hI2⟩
        · refine wpOp_step (o := { dst := some 3, op := Op.alloc 125, type := 0, pos := "dead.go:14", after := #[], guard := none }) rfl (fun K hK => ?_)
          go_simp
          have hI2 := hI.new12
          exact hK _ _ ⟨HK.out _ hI2.bel, c1, c3, c5, c9, c10, c11, true, x13, x15, x17, x21, x22, x23, _, rfl, rfl, hI2⟩
        · exfalso
          have ra := (ready_after hi (o := { dst := none, op := Op.store 125 (Operand.tmp 3) (Operand.tmp 23), type := 0, pos := "dead.go:14", after := #[{ on := 12, ground := Ground.data }, { on := 11, ground := Ground.data }, { on := 5, ground := Ground.chain }, { on := 0, ground := Ground.phase }, { on := 1, ground := Ground.phase }, { on := 2, ground := Ground.phase }, { on := 3, ground := Ground.phase }, { on := 4, ground := Ground.phase }, { on := 5, ground := Ground.phase }, { on := 6, ground := Ground.phase }, { on := 7, ground := Ground.phase }, { on := 8, ground := Ground.phase }, { on := 9, ground := Ground.phase }, { on := 10, ground := Ground.phase }, { on := 11, ground := Ground.phase }, { on := 12, ground := Ground.phase }], guard := none }) rfl).2
          have q1 : c1 = true := ra ⟨1, .phase⟩ (by simp) rfl
          have q3 : c3 = true := ra ⟨3, .phase⟩ (by simp) rfl
          have q5 : c5 = true := ra ⟨5, .phase⟩ (by simp) rfl
          have q9 : c9 = true := ra ⟨9, .phase⟩ (by simp) rfl
          have q10 : c10 = true := ra ⟨10, .phase⟩ (by simp) rfl
          have q11 : c11 = true := ra ⟨11, .phase⟩ (by simp) rfl
          have q12 : a12 = true := ra ⟨12, .phase⟩ (by simp) rfl
          subst q1 q3 q5 q9 q10 q11 q12
          exact hs rfl
    case stop =>
      rintro a' w' ⟨c1, c3, c5, c9, c10, c11, a12, x13, x15, x17, x21, x22, x23, x3, hl, rfl, hI⟩
      have hl2 : c1 = true ∧ c3 = true ∧ c5 = true ∧ c9 = true ∧ c10 = true ∧ c11 = true ∧ a12 = true := by
        simp only [lstD, Array.mk.injEq, List.cons.injEq, true_and, and_true] at hl
        exact ⟨hl.1.symm, hl.2.1.symm, hl.2.2.1.symm, hl.2.2.2.1.symm, hl.2.2.2.2.1.symm, hl.2.2.2.2.2.1.symm, hl.2.2.2.2.2.2.symm⟩
      obtain ⟨rfl, rfl, rfl, rfl, rfl, rfl, rfl⟩ := hl2
      obtain ⟨-, b23, rfl, l17, g17⟩ := hI.e11 rfl
      obtain ⟨b3, rfl, l3, g3⟩ := hI.e12 rfl
      have z3 : w'.cell? ⟨b3, 0, none⟩ = some (.pointer none) := cell_at (i := 0) g3 rfl
      have y3 : w'.frozen? ⟨b3, 0, none⟩ = false := row_free g3 0
      have HF : Hid (DnS w5 y (.slice tq3 nt tc3) (.slice sq3 ns sc3) ns b3 (w'.setCell ⟨b3, 0, none⟩ (ptr b23))) := hI.stored
      clear hI hl g3 g17
      refine wpAnyH_ready (rs := [13]) (by kernel_rfl) (by simp) ?_
      refine AllReadyH.cons (o := { dst := none, op := Op.store 125 (Operand.tmp 3) (Operand.tmp 23), type := 0, pos := "dead.go:14", after := #[{ on := 12, ground := Ground.data }, { on := 11, ground := Ground.data }, { on := 5, ground := Ground.chain }, { on := 0, ground := Ground.phase }, { on := 1, ground := Ground.phase }, { on := 2, ground := Ground.phase }, { on := 3, ground := Ground.phase }, { on := 4, ground := Ground.phase }, { on := 5, ground := Ground.phase }, { on := 6, ground := Ground.phase }, { on := 7, ground := Ground.phase }, { on := 8, ground := Ground.phase }, { on := 9, ground := Ground.phase }, { on := 10, ground := Ground.phase }, { on := 11, ground := Ground.phase }, { on := 12, ground := Ground.phase }], guard := none }) rfl (fun K hK => ?_) AllReadyH.nil
      go_simp
      refine hK _ _ (HK.out _ HF.out.bel) (fun _ => ?_)
      clear hK K
      refine wpAnyH_done (by kernel_rfl) ?_ _
      go_wp2_with fail
      go_meet
      exact ⟨b3, rfl, HF⟩
  case rest =>
    obtain ⟨b3, rfl, HF⟩ := hcut
    obtain ⟨⟨Nb, mb, ib, bb, gb, k1, k2, k3, k4, k5, k6, k7, k8⟩, hbel⟩ := HF.out
    have hIc := HI5.out.below hbel
    have HIc : Hid (RdI w y tq3 nt tc3 sq3 ns sc3 tl l wc) := hIc
    have x3 := cell_at (i := 3) hIc.b0 rfl
    have HKs : Hid (wc.heap[b3]? = some (.cells #[ptr Nb] 125) ∧ wc.heap[Nb]? = some (ndO y (.slice tq3 nt tc3) (.slice sq3 ns sc3) mb ib bb gb ns) ∧ wc.heap[bb]? = some (wd 0) ∧ wc.heap[gb]? = some (.cells (fls ns) 4) ∧ w5.heap.size ≤ b3 ∧ w5.heap.size ≤ Nb ∧ w5.heap.size ≤ bb ∧ w5.heap.size ≤ gb ∧ Below w5.heap.size w5 wc) := ⟨k1, k2, k3, k4, k5, k6, k7, k8, hbel⟩
    clear k1 k2 k3 k4 k5 k6 k7 k8 hbel hIc hmm hmk
    go_wp2_with fail
    go_loopw [27] (fun v wr => ∃ i : Nat, i ≤ ns ∧ v = .int .i64 i ∧ Hid (wr = wc)) (fun v _ => ns - (intOf v).toNat)
    case atStart => exact ⟨0, Nat.zero_le _, rfl, rfl⟩
    case round =>
      obtain ⟨i, hin, rfl, HWr⟩ := hrel
      obtain rfl := HWr.out
      clear HWr
      by_cases hlt : i < ns
      · obtain ⟨s, hsi⟩ : ∃ s, l[i]? = some s := ⟨l[i]'(by have := HR.out.2.1; omega), List.getElem?_eq_getElem _⟩
        obtain ⟨tv', sv', ev, ho1, ho2⟩ := HIc.out.fl
        have ev2 : sv' = .slice sq3 ns sc3 := by
          injection ev with ev
          have := congrArg (fun a : Array Value => a[3]?) ev
          simpa using this.symm
        subst ev2
        rw [HR.out.2.1] at ho2
        obtain ⟨g, rfl, hc⟩ := row_step ho2 hsi
        have x0 : wr.cell? ⟨g, i * 10, none⟩ = some (.int .i64 s.code) := by have := hc 0 (by omega); rw [Nat.add_zero] at this; exact this
        have hcd := (HR.out.2.2.2.2.2 s (List.mem_of_getElem? hsi)).code
        have hl9 : (i : Int) < (ns : Int) := by omega
        obtain ⟨cd, hcd2⟩ : ∃ cd, s.code = cd := ⟨_, rfl⟩
        rw [hcd2] at x0 hcd
        have t6 : (cd == 6) = false := by rcases hcd with h | h <;> rw [h] <;> decide
        clear hsi hc ev ho1 ho2 hcd hcd2
        go_wp2
        exact ⟨⟨i + 1, by omega, by go_num, by trivial⟩, by simp [intOf]; omega⟩
      · obtain ⟨k1, k2, k3, k4, k5, k6, k7, k8, hbel⟩ := HKs.out
        have hIc := HIc.out
        obtain ⟨hll, hps, hpb, hp0, hrn, hz, hi64, ht1, hpl⟩ := HGd.out
        have hz5 : w.heap.size + 2 ≤ w5.heap.size := by have := (Array.getElem?_eq_some_iff.1 HI5.out.b1).1; omega
        have h2w := ffe_two HR.out.2.2.2.1
        obtain ⟨tv', sv', ev, ho1, ho2⟩ := HI5.out.fl
        have ev1 : tv' = .slice tq3 nt tc3 := by
          injection ev with ev
          have := congrArg (fun a : Array Value => a[2]?) ev
          simpa using this.symm
        have ev2 : sv' = .slice sq3 ns sc3 := by
          injection ev with ev
          have := congrArg (fun a : Array Value => a[3]?) ev
          simpa using this.symm
        subst ev1 ev2
        rw [HR.out.1] at ho1
        rw [HR.out.2.1] at ho2
        obtain ⟨tb, rfl⟩ : ∃ tb, tq3 = some ⟨tb, 0, none⟩ := by
          rcases own_row ho1 with ⟨_, e2⟩ | ⟨g, cap, e1, _, _⟩
          · omega
          · injection e1 with e1
            exact ⟨g, e1⟩
        obtain ⟨sb, rfl⟩ : ∃ sb, sq3 = some ⟨sb, 0, none⟩ := by
          rcases own_row ho2 with ⟨_, e2⟩ | ⟨g, cap, e1, _, _⟩
          · omega
          · injection e1 with e1
            exact ⟨g, e1⟩
        have t1 := ho1.lt tb rfl
        have t2 := ho2.lt sb rfl
        have tne : tb ≠ sb := fun e => by
          rcases ho1.2 with ⟨q, _⟩ | ⟨g, cap, cur, q, _, q3, _⟩
          · cases q
          · rcases ho2.2 with ⟨r, _⟩ | ⟨g', cap', cur', r, _, r3, _⟩
            · cases r
            · injection q with q
              injection q with q
              injection q with q
              injection r with r
              injection r with r
              injection r with r
              rw [← q, e, r, r3] at q3
              injection q3 with q3
              injection q3 with _ q3
              cases q3
        have n1 : bb ≠ gb := fun e => by rw [e, k4] at k3; injection k3 with k3; injection k3 with _ k3; cases k3
        have n2 : Nb ≠ bb := fun e => by rw [e, k3] at k2; injection k2 with k2; injection k2 with _ k2; cases k2
        have n3 : Nb ≠ gb := fun e => by rw [e, k4] at k2; injection k2 with k2; injection k2 with _ k2; cases k2
        have n4 : b3 ≠ bb := fun e => by rw [e, k3] at k1; injection k1 with k1; injection k1 with _ k1; cases k1
        have n5 : b3 ≠ gb := fun e => by rw [e, k4] at k1; injection k1 with k1; injection k1 with _ k1; cases k1
        have l1 := (Array.getElem?_eq_some_iff.1 k1).1
        have l2 := (Array.getElem?_eq_some_iff.1 k2).1
        have l3 := (Array.getElem?_eq_some_iff.1 k3).1
        have l4 := (Array.getElem?_eq_some_iff.1 k4).1
        have hzc := hbel.size
        have ho1c : wr.ownsRow (w.heap.size + 2) 3 1 (.slice (some ⟨tb, 0, none⟩) nt tc3) nt (ints tl) := own_at ho1 (fun i hi => hbel.block i (own_lt ho1 i hi))
        have ho2c : wr.ownsRow (w.heap.size + 2) 44 10 (.slice (some ⟨sb, 0, none⟩) ns sc3) ns (rowC l) := own_at ho2 (fun i hi => hbel.block i (own_lt ho2 i hi))
        have HBk : Hid (Calls Tryd.prog 74 #[ptr Nb] wr (BaP wr bb gb ns rn ps)) := back_74 wr (w.heap.size + 2) y nt tc3 sb sc3 ns rn Nb mb ib bb gb tb env ps (fls ns) k2 k3 k4 (by simp) (by rw [← hll]; exact ho2c) (own_tyF ho1c HR.out.1 ht1 rfl) (HR.out.2.2.2.1.below hIc.bel) hpl hps hpb hrn HR.out.2.2.2.2.1 hle n1 ⟨n2, n3⟩ ⟨by omega, by omega⟩ ⟨by omega, by omega⟩ ⟨by omega, by omega⟩
        have x0 : wr.cell? ⟨b3, 0, none⟩ = some (ptr Nb) := cell_at (i := 0) k1 rfl
        have HWo : Hid (∀ w6 e, BaP wr bb gb ns rn ps e w6 → e = .returned (.bool false) ∧ RdI w y (some ⟨tb, 0, none⟩) nt tc3 (some ⟨sb, 0, none⟩) ns sc3 tl l w6 ∧ ∃ gs, Calls Tryd.prog 68 #[.agg #[.string y, .int .i64 0, .slice (some ⟨tb, 0, none⟩) nt tc3, .slice (some ⟨sb, 0, none⟩) ns sc3], .func (.func 75) #[] #[ptr b3]] w6 (WgP w6 (w.heap.size + 2) y (some ⟨tb, 0, none⟩) nt tc3 sb ns sc3 (DnJ w w6 y (some ⟨tb, 0, none⟩) nt tc3 sb sc3 ns b3 Nb mb ib bb gb rn tl l ps gs))) := fun w6 e h => by
          obtain ⟨he, ⟨gs, hg1, hg2⟩, hko⟩ := h
          have hno : ∀ b, b ≠ bb → b ≠ gb → b ∉ [bb, gb] := fun b h1 h2 => by simp; exact ⟨h1, h2⟩
          have hb6 : Below w5.heap.size w5 w6 := ⟨hko.os.trans hbel.os, hko.tape.trans hbel.tape, hko.output.trans hbel.output, Nat.le_trans hbel.size hko.size, fun b hb => by rw [hko.blk b (by omega) (hno b (by omega) (by omega))]; exact hbel.block b hb⟩
          have hI6 := HI5.out.below hb6
          have hz6 := hko.size
          refine ⟨he, hI6, gs, ?_⟩
          have E : DnE w w6 (some ⟨tb, 0, none⟩) sb b3 Nb gb := ⟨⟨t2.1, by omega⟩, ⟨by omega, by omega⟩, ⟨by omega, by omega⟩, ⟨by omega, by omega⟩, ⟨tb, rfl, by omega, tne⟩⟩
          have ho1' : w6.ownsRow (w.heap.size + 2) 3 1 (.slice (some ⟨tb, 0, none⟩) nt tc3) nt (ints tl) := own_at ho1 (fun i hi => hb6.block i (own_lt ho1 i hi))
          have ho2' : w6.ownsRow (w.heap.size + 2) 44 10 (.slice (some ⟨sb, 0, none⟩) ns sc3) ns (rowC l) := own_at ho2 (fun i hi => hb6.block i (own_lt ho2 i hi))
          refine without_g75 w6 (w.heap.size + 2) y (some ⟨tb, 0, none⟩) nt tc3 sb sc3 ns l b3 HR.out.2.1 ho2' (by omega) hle _ ⟨hI6.bel, Nat.le_refl _, hI6.b1, by rw [hko.blk _ l1 (hno _ n4 n5)]; exact k1, by rw [hko.blk _ l2 (hno _ n2 n3)]; exact k2, hg1, ho1', rfl⟩ (fun i kept W W' h hk => h.stable E hk) (fun W i kept s cur hz hs hJ hrow hcs hc => dead_75 w w6 y _ nt tc3 sb sc3 ns b3 Nb mb ib bb gb rn tl l ps gs (fun j hj => hg2.done j (Nat.zero_le _) hj) HR.out.2.1 hle W i kept s cur hs hJ hrow hc)
        clear k1 k2 k3 k4 k5 k6 k7 k8 hbel hIc hll hps hpb hp0 hrn hz hi64 ht1 hpl hz5 h2w ev ho1 ho2 t1 t2 tne n1 n2 n3 n4 n5 l1 l2 l3 l4 hzc ho1c ho2c x3
        go_wp2_with fail
        go_loopw [50] (fun _ w2 => Hid (w2 = wr)) (fun _ _ => 0)
        case atStart => exact rfl
        case round =>
          have HWr := hrel
          obtain rfl := HWr.out
          clear HWr hrel
          go_wp2_with (go_at_call 74; fail)
          clear x0
          refine HBk.out.mono ?_
          intro e w6 hBa
          obtain ⟨rfl, hI6, gs, hW⟩ := HWo.out w6 e hBa
          have HW6 : Hid (Calls Tryd.prog 68 #[.agg #[.string y, .int .i64 0, .slice (some ⟨tb, 0, none⟩) nt tc3, .slice (some ⟨sb, 0, none⟩) ns sc3], .func (.func 75) #[] #[ptr b3]] w6 (WgP w6 (w.heap.size + 2) y (some ⟨tb, 0, none⟩) nt tc3 sb ns sc3 (DnJ w w6 y (some ⟨tb, 0, none⟩) nt tc3 sb sc3 ns b3 Nb mb ib bb gb rn tl l ps gs))) := hW
          have a0 := cell_at (i := 0) hI6.b0 rfl
          have a1 := cell_at (i := 1) hI6.b0 rfl
          have a2 := cell_at (i := 2) hI6.b0 rfl
          have a3 := cell_at (i := 3) hI6.b0 rfl
          clear hBa hI6 hW HWo HBk
          go_wp2_with (go_at_call 68; fail)
          clear a0 a1 a2 a3
          refine HW6.out.mono ?_
          rintro e w8 ⟨kept, rfl, hk1, hk2, hk3⟩
          have HJ : Hid (DnJ w w6 y (some ⟨tb, 0, none⟩) nt tc3 sb sc3 ns b3 Nb mb ib bb gb rn tl l ps gs ns kept w8) := hk2
          have HO : Hid (w8.ownsRow (w.heap.size + 2) 44 10 (.slice (some ⟨sb, 0, none⟩) kept.length sc3) kept.length (rowC kept)) := hk3
          have z0 := cell_at (i := 0) hk2.r rfl
          have z1 := cell_at (i := 1) hk2.r rfl
          have z2 := cell_at (i := 2) hk2.r rfl
          have z3 := cell_at (i := 3) hk2.r rfl
          have g0 := row_free hk2.r 0
          have g1 := row_free hk2.r 1
          have g2 := row_free hk2.r 2
          have g3 := row_free hk2.r 3
          clear hk2 hk3
          go_wp2
          refine bodyPost_ret (res50 _ _ (w.heap.size + 1) _ _ _ _ rfl (set4 HJ.out.r)) rfl ?_
          rw [← HG.out]
          have hk : ∀ k, k ≠ w.heap.size + 1 → ((((w8.setCell ⟨w.heap.size + 1, 0, none⟩ (.string y)).setCell ⟨w.heap.size + 1, 1, none⟩ (.int .i64 0)).setCell ⟨w.heap.size + 1, 2, none⟩ (.slice (some ⟨tb, 0, none⟩) nt tc3)).setCell ⟨w.heap.size + 1, 3, none⟩ (.slice (some ⟨sb, 0, none⟩) kept.length sc3)).heap[k]? = w8.heap[k]? := fun k hk => by
            rw [heap_setCell_other _ _ _ _ hk, heap_setCell_other _ _ _ _ hk, heap_setCell_other _ _ _ _ hk, heap_setCell_other _ _ _ _ hk]
          have h1 := HJ.out.t
          have h2 := HO.out
          refine ⟨_, kept, rfl, ⟨_, _, rfl, ?_, own_mono (own_at h2 (fun i hi => hk i (by have := (h2.lt i hi).1; omega))) (by omega)⟩, ?_, ?_⟩
          · rw [HR.out.1]
            exact own_mono (own_at h1 (fun i hi => hk i (by have := (h1.lt i hi).1; omega))) (by omega)
          · exact (((HJ.out.bel.setCell (p := ⟨w.heap.size + 1, 0, none⟩) (by show w.heap.size ≤ w.heap.size + 1; omega) _).setCell (p := ⟨w.heap.size + 1, 1, none⟩) (by show w.heap.size ≤ w.heap.size + 1; omega) _).setCell (p := ⟨w.heap.size + 1, 2, none⟩) (by show w.heap.size ≤ w.heap.size + 1; omega) _).setCell (p := ⟨w.heap.size + 1, 3, none⟩) (by show w.heap.size ≤ w.heap.size + 1; omega) _
          · rw [HR.out.1, HJ.out.kp]
            obtain ⟨hll, hps, hpb, hp0, hrn, hz, hi64, ht1, hpl⟩ := HGd.out
            have := kept_all (nt := nt) hps hrn hp0 hz hi64
            rw [← hll, hpl] at this
            exact this
end Go.Proofs.YtjmbjpimabnohaaDoor.Mid
