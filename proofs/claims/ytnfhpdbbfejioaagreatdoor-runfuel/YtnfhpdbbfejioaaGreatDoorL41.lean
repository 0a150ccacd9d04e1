/- Package check, walked: stmt at a Put; statements, blocks, of whatever is read. Package check, walked: function. Package check, walked: placesOf. Package check, walked: Check's deferred closure; what a checker looks up. -/
import Derived.Test.YtnfhpdbbfejioaaGreatDoorL40
import Derived.Test.YtnfhpdbbfejioaaGreatDoorL39
import Derived.Test.YtnfhpdbbfejioaaGreatDoorL32
namespace Go.Proofs.YtnfhpdbbfejioaaGreatDoor
set_option linter.unusedVariables false
set_option linter.unusedSimpArgs false
open Go Go.RowKit
set_option maxRecDepth 100000 in
set_option maxHeartbeats 4000000 in
theorem st_put {a : Int} {nm : By} {ix v th el : Tr} (IX : MuC ix) (IV : MuC v) : StC (st 3 a nm ix v th el) := by
  intro w C fv mv nv fs ns k cs hs hf hst
  obtain ⟨vi, vv, vt, ve, nt, ne, ts, es, rfl, hxi, hxv, hrt, hst1, hre, hse⟩ := st_one hst
  obtain ⟨y, hy, hyt⟩ := str_y nm
  rw [hy]
  have HY : Hid (y.data.toList = nm) := hyt
  obtain ⟨s5, c5, rfl⟩ := own_slice hrt.1
  obtain ⟨s6, c6, rfl⟩ := own_slice hre.1
  obtain ⟨W0, hW0⟩ : ∃ W0, W0 = w.alloc (.cells #[.int .i64 3, .int .i64 a, .string y, .pointer vi, .pointer vv, .slice s5 nt c5, .slice s6 ne c6] 147) := ⟨_, rfl⟩
  have hb0 : Below w.heap.size w W0 := by rw [hW0]; exact (Below.refl _ _).alloc (Nat.le_refl _) _
  have hblk0 : W0.heap[w.heap.size]? = some (.cells #[.int .i64 3, .int .i64 a, .string y, .pointer vi, .pointer vv, .slice s5 nt c5, .slice s6 ne c6] 147) := by rw [hW0]; exact heap_alloc_last w _
  have hlo := hb0.mono (Nat.le_of_lt hs.lt)
  have HS0 : Hid (CkS W0 C fv mv nv ns k) := hs.below hb0
  have HF0 : Hid (FxS W0 C fv mv fs) := hf.below hlo
  have HXi : Hid (ExAt (Lo C) W0 ix (.pointer vi)) := (lo_keeps hlo).ex hxi
  have HXv : Hid (ExAt (Lo C) W0 v (.pointer vv)) := (lo_keeps hlo).ex hxv
  have HRt : Hid (RowS (Lo C) W0 147 7 (.slice s5 nt c5) nt ts) := hrt.kept (lo_keeps hlo) (by decide)
  have HSt : Hid (StAt (Lo C) W0 th ts) := StAt.kept (lo_keeps hlo) _ _ hst1
  have HRe : Hid (RowS (Lo C) W0 147 7 (.slice s6 ne c6) ne es) := hre.kept (lo_keeps hlo) (by decide)
  have HSe : Hid (StAt (Lo C) W0 el es) := StAt.kept (lo_keeps hlo) _ _ hse
  have HB0 : Hid (Below C w W0) := hlo
  have HK0 : Hid (Kt w W0) := kt_below hb0
  have HBk : Hid (W0.heap[w.heap.size]? = some (.cells #[.int .i64 3, .int .i64 a, .string y, .pointer vi, .pointer vv, .slice s5 nt c5, .slice s6 ne c6] 147)) := hblk0
  have HCl : Hid (C < w.heap.size) := hs.lt
  have z0 := cell_at (i := 0) hblk0 rfl
  have z1 := cell_at (i := 1) hblk0 rfl
  have z2 := cell_at (i := 2) hblk0 rfl
  have z3 := cell_at (i := 3) hblk0 rfl
  have z4 := cell_at (i := 4) hblk0 rfl
  rw [hW0] at z0 z1 z2 z3 z4
  have HE : Hid (cks (lkL fs) (cc (st 3 a nm ix v th el) ce) (ns, k) = (match fndN ns nm with | none => .error (7, a) | some q => if q ≠ 2 then .error (1, a) else bx (mu (lkL fs) ns ix 1) fun _ => bx (mu (lkL fs) ns v 1) fun _ => .ok (ns, k))) := cks_3 (lkL fs) a nm ix v th el (ns, k)
  have HG0 : Hid (∀ e w', CkP (cks (lkL fs) (cc (st 3 a nm ix v th el) ce) (ns, k)) C fv mv w e w' → CkP (cks (lkL fs) (cc (st 3 a nm ix v th el) ce) (ns, k)) C fv mv w e w') := fun _ _ h => h
  generalize hG : CkP (cks (lkL fs) (cc (st 3 a nm ix v th el) ce) (ns, k)) C fv mv w = G at *
  clear HG0
  have HG0 : Hid (∀ e w', CkP (cks (lkL fs) (cc (st 3 a nm ix v th el) ce) (ns, k)) C fv mv w e w' → G e w') := fun e w' h => by rw [← hG]; exact h
  generalize cks (lkL fs) (cc (st 3 a nm ix v th el) ce) (ns, k) = R0 at *
  clear hs hf hst hxi hxv hrt hst1 hre hse hy hyt hb0 hblk0 hlo hG
  have HBd : Hid (∀ w', Below W0.heap.size W0 w' → Below C w w' ∧ Kt w w') := fun w' h1 => ⟨HB0.out.trans (h1.mono (Nat.le_of_lt HS0.out.lt)), HK0.out.trans (kt_below h1)⟩
  go_enter Tryz.func103, Tryz.ntmps103
  go_wp2_with (go_at_call 158; fail)
  rw [← hW0]
  clear hW0 z0 z1 z2 z3 z4
  refine (variable_any HS0.out y a).mono ?_
  rintro e w1 ⟨⟨t, hr, rfl⟩ | ⟨hr, b1, rfl, hb1⟩, hw⟩
  rotate_left
  · refine ⟨rfl, HG0.out _ _ ⟨.inr ⟨7, a, ?_, b1, rfl, hb1⟩, (HBd.out _ hw).1, (HBd.out _ hw).2⟩⟩
    rw [HE.out, ← HY.out, hr]
  have HR1 : Hid (fndN ns y.data.toList = some t) := hr
  have hlo0 := hw.mono (Nat.le_of_lt HS0.out.lt)
  have HS1 : Hid (CkS w1 C fv mv nv ns k) := HS0.out.below hw
  have HF1 : Hid (FxS w1 C fv mv fs) := HF0.out.below hlo0
  have HX1 : Hid (ExAt (Lo C) w1 v (.pointer vv)) := (lo_keeps hlo0).ex HXv.out
  have HXi1 : Hid (ExAt (Lo C) w1 ix (.pointer vi)) := (lo_keeps hlo0).ex HXi.out
  have HB1 : Hid (Below C w w1 ∧ Kt w w1) := HBd.out _ hw
  have hbk1 := blk_at (C := C) HBk.out hw
  have y1 := cell_at (i := 1) hbk1 rfl
  have y3 := cell_at (i := 3) hbk1 rfl
  have HBk1 : Hid (w1.heap[w.heap.size]? = some (.cells #[.int .i64 3, .int .i64 a, .string y, .pointer vi, .pointer vv, .slice s5 nt c5, .slice s6 ne c6] 147)) := hbk1
  clear hr hw hbk1 hlo0
  all_goals
    by_cases ht : t = 2
    · subst ht
      go_wp2_with (go_at_call 157; fail)
      refine (IX w1 C fv mv nv fs ns k _ 1 HS1.out HF1.out HXi1.out).mono ?_
      rintro e w2 ⟨⟨hr, rfl⟩ | ⟨k1, a1, hr, b1, rfl, hb1⟩, hw⟩
      rotate_left
      · refine ⟨rfl, HG0.out _ _ ⟨.inr ⟨k1, a1, ?_, b1, rfl, hb1⟩, HB1.out.1.trans (hw.mono (Nat.le_of_lt HS1.out.lt)), HB1.out.2.trans (kt_below hw)⟩⟩
        rw [HE.out, ← HY.out, HR1.out]
        show (if (2 : Int) ≠ 2 then _ else bx (mu (lkL fs) ns ix 1) _) = _
        rw [if_neg (by simp), hr]
        rfl
      have hlo := hw.mono (Nat.le_of_lt HS1.out.lt)
      have HR2 : Hid (mu (lkL fs) ns ix 1 = .ok ()) := hr
      have HS2 : Hid (CkS w2 C fv mv nv ns k) := HS1.out.below hw
      have HF2 : Hid (FxS w2 C fv mv fs) := HF1.out.below hlo
      have HX2 : Hid (ExAt (Lo C) w2 v (.pointer vv)) := (lo_keeps hlo).ex HX1.out
      have HB2 : Hid (Below C w w2 ∧ Kt w w2) := ⟨HB1.out.1.trans hlo, HB1.out.2.trans (kt_below hw)⟩
      have x4 := cell_at (i := 4) (blk_at (C := C) HBk1.out hw) rfl
      clear hlo hr hw y1 y3
      go_wp2_with (go_at_call 157; fail)
      refine (IV w2 C fv mv nv fs ns k _ 1 HS2.out HF2.out HX2.out).mono ?_
      rintro e w3 ⟨⟨hr, rfl⟩ | ⟨k1, a1, hr, b1, rfl, hb1⟩, hw⟩
      rotate_left
      · refine ⟨rfl, HG0.out _ _ ⟨.inr ⟨k1, a1, ?_, b1, rfl, hb1⟩, HB2.out.1.trans (hw.mono (Nat.le_of_lt HS2.out.lt)), HB2.out.2.trans (kt_below hw)⟩⟩
        rw [HE.out, ← HY.out, HR1.out]
        show (if (2 : Int) ≠ 2 then _ else bx (mu (lkL fs) ns ix 1) _) = _
        rw [if_neg (by simp), HR2.out]
        show bx (mu (lkL fs) ns v 1) _ = _
        rw [hr]
        rfl
      have HEnd : Hid (G (.returned (.tuple #[])) w3) := HG0.out _ _ ⟨.inl ⟨ns, k, nv, (by
        rw [HE.out, ← HY.out, HR1.out]
        show (if (2 : Int) ≠ 2 then _ else bx (mu (lkL fs) ns ix 1) _) = _
        rw [if_neg (by simp), HR2.out]
        show bx (mu (lkL fs) ns v 1) _ = _
        rw [hr]
        rfl), rfl, HS2.out.below hw⟩, HB2.out.1.trans (hw.mono (Nat.le_of_lt HS2.out.lt)), HB2.out.2.trans (kt_below hw)⟩
      clear hr hw x4
      go_wp2
      go_end0
      exact HEnd.out
    · have ht' : ((t : Int) == 2) = false := by simpa using ht
      go_wp2_with (go_at_call 64; fail)
      refine (throw_any 1 a w1).mono ?_
      rintro e w2 ⟨⟨b2, rfl, hb2⟩, hw⟩
      refine ⟨rfl, HG0.out _ _ ⟨.inr ⟨1, a, ?_, b2, rfl, hb2⟩, HB1.out.1.trans (hw.mono (Nat.le_of_lt HS1.out.lt)), HB1.out.2.trans (kt_below hw)⟩⟩
      rw [HE.out, ← HY.out, HR1.out]
      show (if t ≠ 2 then _ else _) = _
      rw [if_pos ht]
theorem rs_isSt {f d : Nat} {t : Tr} (h : RS f d t) : IsSt t := rs_st h
theorem goodS_mem : ∀ (xs : List Tr), GoodS (chain xs) → ∀ x ∈ xs, GoodS (cc x ce)
  | [], _, x, hx => by simp at hx
  | y :: xs, h, x, hx => by
    have h' : GoodS (cc y (chain xs)) := h
    obtain ⟨c, a, nm, ix, v, th, el, rfl, h1, h2, h3, h4, h5, h6, h7, h8, h9, h10, h11⟩ := goodS_open h'
    rcases List.mem_cons.1 hx with rfl | hx
    · exact goodS_st h1 h2 h3 h4 h5 h6 h7 h8 h9 h10 goodS_ce
    · exact goodS_mem xs h11 x hx
theorem ty_rex {d : Nat} {t : Tr} (h : REx d t) (g : GoodE t) : TyC t ∧ MuC t := by
  obtain ⟨e, h⟩ := h
  have := ty_all e d t h g
  exact ⟨this, must_of (re_isNd h) this⟩
theorem st_all : ∀ (f d : Nat) (t : Tr), RS f d t → GoodS (cc t ce) → StC t
  | 0, _, _, h, _ => h.elim
  | f + 1, d, t, h, hg => by
    have BL : ∀ (d : Nat) (xs : List Tr), (∀ x ∈ xs, RS f d x) → GoodS (chain xs) → chl (chain xs) ≤ 1000000 → BlC (chain xs) := fun d xs hx g hc => block_of (fun x hx' => ⟨st_all f d x (hx x hx') (goodS_mem xs g x hx'), rs_isSt (hx x hx')⟩) (by rw [chl_chain] at hc; exact hc)
    obtain ⟨c, a, nm, ix, v, th, el, rfl, h1, h2, h3, h4, h5, h6, h7, h8, h9, h10, h11⟩ := goodS_open hg
    rw [RS] at h
    rcases h with ⟨a', nm', v', hn, hv, e⟩ | ⟨a', nm', v', hn, hv, e⟩ | ⟨a', nm', i, v', hn, hi, hv, e⟩ | ⟨a', v', xs, ys, hd, hv, hx, hy, e⟩ | ⟨a', v', xs, hd, hv, hx, e⟩ | ⟨a', v', hv, e⟩ | ⟨a', v', hv, e⟩ | ⟨a', b, nm', xs, hn, ⟨e0, hx⟩, e⟩
    all_goals
      simp only [st, DataW.agg.injEq, List.cons.injEq, DataW.lit.injEq, Lit.int.injEq, Lit.string.injEq, true_and, and_true] at e
      obtain ⟨rfl, rfl, rfl, rfl, rfl, rfl, rfl⟩ := e
    · exact st_var (ty_rex hv h6).1
    · exact st_set (ty_rex hv h6).2
    · exact st_put (ty_rex hi h4).2 (ty_rex hv h6).2
    · exact st_rest (by omega) (by omega) (ty_rex hv h6).2 (BL _ xs hx h7 h8) (BL _ ys hy h9 h10)
    · exact st_rest (by omega) (by omega) (ty_rex hv h6).2 (BL _ xs hx h7 h8) (BL (d + 1) [] (fun x hx => by simp at hx) h9 h10)
    · exact st_rest (by omega) (by omega) (ty_rex hv h6).2 (BL (d + 1) [] (fun x hx => by simp at hx) h7 h8) (BL (d + 1) [] (fun x hx => by simp at hx) h9 h10)
    · exact st_rest (by omega) (by omega) (ty_rex hv h6).2 (BL (d + 1) [] (fun x hx => by simp at hx) h7 h8) (BL (d + 1) [] (fun x hx => by simp at hx) h9 h10)
    · have hv : REx 0 (nd 5 b 0 nm' [] .nil .nil (chain xs)) := ⟨e0 + 1, by
        rw [RE]
        exact ⟨by omega, .inr (.inr (.inr (.inr (.inl ⟨_, _, _, hn, hx, rfl⟩))))⟩⟩
      exact st_rest (by omega) (by omega) (ty_rex hv h6).2 (BL (d + 1) [] (fun x hx => by simp at hx) h7 h8) (BL (d + 1) [] (fun x hx => by simp at hx) h9 h10)
theorem body_all {xs : List Tr} {e : Nat} (h : ∀ x ∈ xs, RS e 1 x) (g : GoodS (chain xs)) (hc : chl (chain xs) ≤ 1000000) : BlC (chain xs) := block_of (fun x hx => ⟨st_all e 1 x (h x hx) (goodS_mem xs g x hx), rs_isSt (h x hx)⟩) (by rw [chl_chain] at hc; exact hc)
/-- What is left behind a function. -/
def FnP (r : X Unit) (C : Nat) (w : World) (e : Ending) (w' : World) : Prop := ((r = .ok () ∧ e = .returned (.tuple #[])) ∨ (∃ k a, r = .error (k, a) ∧ ThrewI k a e w')) ∧ Below C w w' ∧ Kt w w'
set_option maxRecDepth 100000 in
set_option maxHeartbeats 4000000 in
theorem function_any {F : Fun} (IB : BlC F.body) (hp6 : F.ps.length ≤ 1000000) (w : World) (C : Nat) (fv mv nv : Value) (fs : List Fun) (vp vb : Value) (nb : Nat) (bcs : List Value) (nm : ByteArray) (hs : CkS w C fv mv nv [] 0) (hf : FxS w C fv mv fs) (hrp : RowS (Lo C) w 144 2 vp F.ps.length (psC F.ps)) (hrb : RowS (Lo C) w 147 7 vb nb bcs) (hst : StAt (Lo C) w F.body bcs) :
    Calls Tryz.prog 40 #[.pointer (some ⟨C, 0, none⟩), .agg #[.string nm, .int .i64 F.at', vp, vb]] w (FnP (ckF (lkL fs) F) C w) := by
  obtain ⟨qp, cp, rfl⟩ := own_slice hrp.1
  obtain ⟨qb, cb, rfl⟩ := own_slice hrb.1
  obtain ⟨at', hat⟩ : ∃ at', at' = F.at' := ⟨_, rfl⟩
  have HAt : Hid (at' = F.at') := hat
  rw [← hat]
  obtain ⟨np, hnp⟩ : ∃ np, np = F.ps.length := ⟨_, rfl⟩
  have HNp : Hid (np = F.ps.length) := hnp
  rw [← hnp] at hrp hp6 ⊢
  obtain ⟨W0, hW0⟩ : ∃ W0, W0 = w.alloc (.cells #[.string nm, .int .i64 at', .slice qp np cp, .slice qb nb cb] 86) := ⟨_, rfl⟩
  have hb0 : Below w.heap.size w W0 := by rw [hW0]; exact (Below.refl _ _).alloc (Nat.le_refl _) _
  have hblk0 : W0.heap[w.heap.size]? = some (.cells #[.string nm, .int .i64 at', .slice qp np cp, .slice qb nb cb] 86) := by rw [hW0]; exact heap_alloc_last w _
  have hlo := hb0.mono (Nat.le_of_lt hs.lt)
  have HS0 : Hid (CkS W0 C fv mv nv [] 0) := hs.below hb0
  have HF0 : Hid (FxS W0 C fv mv fs) := hf.below hlo
  have HRp : Hid (RowS (Lo C) W0 144 2 (.slice qp np cp) np (psC F.ps)) := hrp.kept (lo_keeps hlo) (by decide)
  have HRb : Hid (RowS (Lo C) W0 147 7 (.slice qb nb cb) nb bcs) := hrb.kept (lo_keeps hlo) (by decide)
  have HSt : Hid (StAt (Lo C) W0 F.body bcs) := StAt.kept (lo_keeps hlo) _ _ hst
  have HB0 : Hid (Below C w W0) := hlo
  have HK0 : Hid (Kt w W0) := kt_below hb0
  have HBk : Hid (W0.heap[w.heap.size]? = some (.cells #[.string nm, .int .i64 at', .slice qp np cp, .slice qb nb cb] 86)) := hblk0
  have z2 := cell_at (i := 2) hblk0 rfl
  rw [hW0] at z2
  have HE : Hid (ckF (lkL fs) F = bx (addsV at' F.ps ([], 0)) fun s => bx (cks (lkL fs) F.body s) fun _ => .ok ()) := by show _ = _; rw [HAt.out]; rfl
  have HG0 : Hid (∀ e w', FnP (ckF (lkL fs) F) C w e w' → FnP (ckF (lkL fs) F) C w e w') := fun _ _ h => h
  generalize hG : FnP (ckF (lkL fs) F) C w = G at *
  clear HG0
  have HG0 : Hid (∀ e w', FnP (ckF (lkL fs) F) C w e w' → G e w') := fun e w' h => by rw [← hG]; exact h
  generalize ckF (lkL fs) F = R0 at *
  clear hs hf hrp hrb hst hat hnp hb0 hblk0 hlo hG
  go_enter Tryz.func40, Tryz.ntmps40
  go_wp2_with fail
  rw [← hW0]
  clear hW0 z2
  go_loopw [9] (fun v wr => ∃ i : Nat, i ≤ np ∧ v = .int .i64 i ∧ Hid (∃ (ns1 : Nm) (k1 : Nat) (nv1 : Value), addsV at' F.ps ([], 0) = addsV at' (F.ps.drop i) (ns1, k1) ∧ CkS wr C fv mv nv1 ns1 k1 ∧ Below C W0 wr ∧ Kt W0 wr)) (fun v _ => np - (intOf v).toNat)
  case atStart => exact ⟨0, Nat.zero_le _, rfl, [], 0, nv, by simp, HS0.out, Below.refl _ _, fun _ _ _ _ _ h => h⟩
  case round =>
    obtain ⟨i, hin, rfl, HI⟩ := hrel
    obtain ⟨ns1, k1, nv1, hck, hS1, hB1, hK1⟩ := HI.out
    have HB1 : Hid (Below C W0 wr) := hB1
    have HK1 : Hid (Kt W0 wr) := hK1
    have HS1 : Hid (CkS wr C fv mv nv1 ns1 k1) := hS1
    have HCk : Hid (addsV at' F.ps ([], 0) = addsV at' (F.ps.drop i) (ns1, k1)) := hck
    have hbk := hK1 _ _ 86 (by decide) (by decide) HBk.out
    clear HI hck hS1 hB1 hK1
    by_cases hlt : i < np
    · obtain ⟨g, cap, e, -, -⟩ := HRp.out.1.form (by omega)
      injection e with e1 e2 e3
      subst e1
      clear e2 e3
      obtain ⟨x, hx⟩ : ∃ x, F.ps[i]? = some x := ⟨F.ps[i]'(by have := HNp.out; omega), List.getElem?_eq_getElem (by have := HNp.out; omega)⟩
      obtain ⟨hc0, hc1⟩ := psC_get F.ps i x hx
      obtain ⟨y, hy, hyt⟩ := str_y x.1
      rw [hy] at hc0
      have hrow := (HRp.out.kept (lo_keeps HB1.out) (by decide)).1
      have q0 : wr.cell? ⟨g, i * 2, none⟩ = some (.string y) := by
        have := hrow.cells (g := g) rfl (i * 2) _ hc0
        rw [add_plain'] at this
        exact this
      have q1 : wr.cell? ⟨g, i * 2 + 1, none⟩ = some (.int .i64 x.2) := by
        have := hrow.cells (g := g) rfl (i * 2 + 1) _ hc1
        rw [add_plain'] at this
        exact this
      have HSt1 : Hid (addsV at' (F.ps.drop i) (ns1, k1) = bx (addV (ns1, k1) (y.data.toList, x.2) at') fun s' => addsV at' (F.ps.drop (i + 1)) s') := by
        show _ = _
        have e1 : F.ps.drop i = x :: F.ps.drop (i + 1) := by
          rw [List.drop_eq_getElem_cons (by have := HNp.out; omega)]
          congr 1
          have := List.getElem?_eq_getElem (l := F.ps) (i := i) (by have := HNp.out; omega)
          rw [hx] at this
          exact (Option.some.inj this).symm
        rw [e1, hyt]
        rfl
      obtain ⟨ty, hty⟩ : ∃ ty, ty = x.2 := ⟨_, rfl⟩
      rw [← hty] at q1 HSt1
      have hbW : Below wr.heap.size wr (wr.alloc (.cells #[.string y, .int .i64 ty] 144)) := (Below.refl _ _).alloc (Nat.le_refl _) _
      have HSW : Hid (CkS (wr.alloc (.cells #[.string y, .int .i64 ty] 144)) C fv mv nv1 ns1 k1) := HS1.out.below hbW
      have HBW : Hid (Below C W0 (wr.alloc (.cells #[.string y, .int .i64 ty] 144)) ∧ Kt W0 (wr.alloc (.cells #[.string y, .int .i64 ty] 144))) := ⟨HB1.out.trans (hbW.mono (Nat.le_of_lt HS1.out.lt)), HK1.out.trans (kt_below hbW)⟩
      have z1 : (wr.alloc (.cells #[.string y, .int .i64 ty] 144)).cell? ⟨w.heap.size, 1, none⟩ = some (.int .i64 at') := cell_at (i := 1) (row_alloc hbk _) rfl
      clear hrow hc0 hc1 hx hy hyt hty hbW hbk
      go_wp2_with (go_at_call 65; fail)
      refine (add_any HSW.out y ty at').mono ?_
      rintro e w2 ⟨⟨ns2, k2, nv2, hr, rfl, hs2⟩ | ⟨k3, a3, hr, b1, rfl, hb1⟩, hw, hkt⟩
      · have HI2 : Hid (∃ (ns1 : Nm) (k1 : Nat) (nv1 : Value), addsV at' F.ps ([], 0) = addsV at' (F.ps.drop (i + 1)) (ns1, k1) ∧ CkS w2 C fv mv nv1 ns1 k1 ∧ Below C W0 w2 ∧ Kt W0 w2) := ⟨ns2, k2, nv2, (by rw [HCk.out, HSt1.out, hr]; rfl), hs2, HBW.out.1.trans hw, HBW.out.2.trans hkt⟩
        clear hr hs2 hw hkt q0 q1 z1
        go_wp2
        exact ⟨⟨i + 1, by omega, by go_num, HI2⟩, by simp [intOf]; omega⟩
      · refine ⟨rfl, HG0.out _ _ ⟨.inr ⟨k3, a3, ?_, b1, rfl, hb1⟩, HB0.out.trans (HBW.out.1.trans hw), HK0.out.trans (HBW.out.2.trans hkt)⟩⟩
        rw [HE.out, HCk.out, HSt1.out, hr]
        rfl
    · obtain rfl : i = np := by omega
      have HEn : Hid (R0 = bx (cks (lkL fs) F.body (ns1, k1)) fun _ => .ok ()) := by
        show _ = _
        rw [HE.out, HCk.out, List.drop_of_length_le (by have := HNp.out; omega)]
        rfl
      have z3 := cell_at (i := 3) hbk rfl
      have HFx : Hid (FxS wr C fv mv fs) := HF0.out.below HB1.out
      have HRb1 : Hid (RowS (Lo C) wr 147 7 (.slice qb nb cb) nb bcs) := HRb.out.kept (lo_keeps HB1.out) (by decide)
      have HSt1 : Hid (StAt (Lo C) wr F.body bcs) := StAt.kept (lo_keeps HB1.out) _ _ HSt.out
      clear hlt hbk
      go_wp2_with (go_at_call 66; fail)
      refine (IB wr C fv mv nv1 fs ns1 k1 _ nb bcs HS1.out HFx.out HRb1.out HSt1.out).mono ?_
      rintro e w2 ⟨⟨ns2, k2, nv2, hr, rfl, hs2⟩ | ⟨k3, a3, hr, b1, rfl, hb1⟩, hw, hkt⟩
      · have HEnd : Hid (G (.returned (.tuple #[])) w2) := HG0.out _ _ ⟨.inl ⟨(by
          unfold blkV at hr
          obtain ⟨s', h1, _⟩ := bx_ok hr
          rw [HEn.out, h1]
          rfl), rfl⟩, HB0.out.trans (HB1.out.trans hw), HK0.out.trans (HK1.out.trans hkt)⟩
        clear hr hs2 hw hkt z3
        go_wp2
        go_end0
        exact HEnd.out
      · refine ⟨rfl, HG0.out _ _ ⟨.inr ⟨k3, a3, ?_, b1, rfl, hb1⟩, HB0.out.trans (HB1.out.trans hw), HK0.out.trans (HK1.out.trans hkt)⟩⟩
        rw [HEn.out]
        unfold blkV at hr
        cases hc : cks (lkL fs) F.body (ns1, k1) with
        | error x =>
          rw [hc] at hr
          injection hr with hr
          rw [hr]
          rfl
        | ok s' =>
          rw [hc] at hr
          cases hr
theorem und63 : Tryz.prog.underlying 92 = some (.map 9 3) := by kernel_rfl
theorem zero3 (w : World) : (zeroValue 3).run Tryz.prog w = .ok (.int .i64 0) w := Tryz.zeroValue3 w
/-- Names and numbers lie in a map. -/
def PlAt (w : World) (b n : Nat) (ps : List (By × Nat)) : Prop := w.ownsMap Tryz.prog 9 (plainElem (H := Unit) Tryz.prog 3) b n (plD ps)
theorem PlAt.below {w w' : World} {b n B : Nat} {ps : List (By × Nat)} (h : PlAt w b n ps) (hb : Below B w w') (hB : b < B) : PlAt w' b n ps := by
  obtain ⟨es, clock, h1, h2⟩ := h
  exact ⟨es, clock, by rw [hb.block b hB]; exact h1, h2⟩
theorem pl_put {w : World} {b n : Nat} {ps : List (By × Nat)} (h : PlAt w b n ps) (hn : n < 100) (x : ByteArray) (hx : x.size ≤ 1000000) (i : Nat) (hi : i ≤ 100) :
    ∃ w', (Instr.mapUpdate 92 (.map (some b)) (.string x) (.int .i64 (i : Int))).run Tryz.prog w = .ok () w' ∧ PlAt w' b (n + 1) ((x.data.toList, i) :: ps) ∧ w.grownBy w' (some b) := by
  have hK : keyOf Tryz.prog 9 (.string x) = some (.string x.data.toList) := Go.WideMaps.keyOf_string_mk Tryz.underlying9 (by unfold maxLen; omega)
  have hV : plainElem (H := Unit) Tryz.prog 3 (.int .i64 (i : Int)) = some (.lit (.int .i64 (i : Int)), []) := plainElem_int Tryz.underlying3 (by simp [Lit.wf, IntKind.min, IntKind.max, IntKind.signed, IntKind.bits]; omega)
  exact World.ownsMap.update h (Maps.string_keyed Tryz.underlying9) und63 (by unfold maxLen; omega) hK hV
theorem pl_has (nm : By) : ∀ ps, Maps.has (plD ps) (.string nm) = (ps.lookup nm).isSome
  | [] => by
    rw [Maps.has_false_of_atKey (fun z => by rw [plD_at]; rfl)]
    rfl
  | (x, i) :: ps => by
    by_cases h : nm = x
    · subst h
      rw [plD, Maps.has_put_same (plD_map ps) (by trivial)]
      simp [List.lookup]
    · rw [plD, Maps.has_put_other (key_ne h), pl_has nm ps]
      have : (nm == x) = false := by simpa using h
      simp [List.lookup, this]
theorem pl_look {w : World} {b n : Nat} {ps : List (By × Nat)} (h : PlAt w b n ps) (x : ByteArray) (hx : x.size ≤ 1000000) :
    (Instr.lookup 92 (.map (some b)) (.string x) true).run Tryz.prog w = .ok (.tuple #[.int .i64 (((ps.lookup x.data.toList).getD 0 : Nat) : Int), .bool (ps.lookup x.data.toList).isSome]) w := by
  have hK : keyOf Tryz.prog 9 (.string x) = some (.string x.data.toList) := Go.WideMaps.keyOf_string_mk Tryz.underlying9 (by unfold maxLen; omega)
  have h0 : plainElem (H := Unit) Tryz.prog 3 (.int .i64 0) = some (.lit (.int .i64 0), []) := plainElem_int Tryz.underlying3 (by decide)
  obtain ⟨v, qs, hrun, hR⟩ := World.ownsMap.look_ok h (Maps.string_keyed Tryz.underlying9) und63 (zero3 w) h0 hK
  rw [hrun, pl_has]
  rw [plD_at] at hR
  have hv : v = .int .i64 (((ps.lookup x.data.toList).getD 0 : Nat) : Int) := by
    obtain ⟨a, rfl, h1, _⟩ := plainElem_int_inv Tryz.underlying3 hR
    have h1 := congrArg Prod.fst h1
    clear hR hrun hK h0 h
    cases hl : ps.lookup x.data.toList with
    | none =>
      rw [hl] at h1
      have h2 : (DataW.lit (.int .i64 0) : DataW Unit) = .lit (.int .i64 a) := h1
      simp only [DataW.lit.injEq, Lit.int.injEq, true_and] at h2
      rw [← h2]
      rfl
    | some i =>
      rw [hl] at h1
      have h2 : (DataW.lit (.int .i64 (i : Int)) : DataW Unit) = .lit (.int .i64 a) := h1
      simp only [DataW.lit.injEq, Lit.int.injEq, true_and] at h2
      rw [← h2]
      rfl
  rw [hv]
/-- Places of functions, the last one ahead. -/
def plF : Nat → List Fun → List (By × Nat) → List (By × Nat)
  | _, [], ps => ps
  | i, F :: L, ps => plF (i + 1) L ((F.nm, i) :: ps)
theorem plF_snoc : ∀ (L : List Fun) (i : Nat) (ps : List (By × Nat)) (F : Fun), plF i (L ++ [F]) ps = (F.nm, i + L.length) :: plF i L ps
  | [], i, ps, F => rfl
  | G :: L, i, ps, F => by
    show plF (i + 1) (L ++ [F]) _ = _
    rw [plF_snoc L (i + 1) _ F]
    show _ = (F.nm, i + (L.length + 1)) :: _
    rw [show i + 1 + L.length = i + (L.length + 1) by omega]
    rfl
theorem plF_none (nm : By) : ∀ (L : List Fun) (i : Nat) (ps : List (By × Nat)), (∀ F ∈ L, F.nm ≠ nm) → (plF i L ps).lookup nm = ps.lookup nm
  | [], _, _, _ => rfl
  | F :: L, i, ps, h => by
    show (plF (i + 1) L ((F.nm, i) :: ps)).lookup nm = _
    rw [plF_none nm L (i + 1) _ (fun G hG => h G (by simp [hG]))]
    have : (nm == F.nm) = false := by
      simp only [beq_eq_false_iff_ne, ne_eq]
      exact fun e => h F (by simp) e.symm
    simp [List.lookup, this]
/-- With no name twice, that is where it stands. -/
theorem plF_look (nm : By) : ∀ (L : List Fun) (i : Nat) (ps : List (By × Nat)), (L.map (·.nm)).Nodup → (∀ F ∈ L, ps.lookup F.nm = none) → (plF i L ps).lookup nm = (match ixF nm L with | some j => some (i + j) | none => ps.lookup nm)
  | [], _, _, _, _ => rfl
  | F :: L, i, ps, hn, hp => by
    rw [List.map_cons, List.nodup_cons] at hn
    show (plF (i + 1) L ((F.nm, i) :: ps)).lookup nm = _
    rw [ixF]
    by_cases h : F.nm = nm
    · rw [if_pos h, plF_none nm L (i + 1) _ (fun G hG e => hn.1 (List.mem_map.2 ⟨G, hG, by rw [e, h]⟩))]
      subst h
      simp [List.lookup]
    · rw [if_neg h, plF_look nm L (i + 1) _ hn.2 (fun G hG => by
        have : (G.nm == F.nm) = false := by
          simp only [beq_eq_false_iff_ne, ne_eq]
          exact fun e => hn.1 (List.mem_map.2 ⟨G, hG, e⟩)
        rw [List.lookup_cons, this]
        exact hp G (by simp [hG]))]
      cases ixF nm L with
      | none =>
        have : (nm == F.nm) = false := by
          simp only [beq_eq_false_iff_ne, ne_eq]
          exact fun e => h e.symm
        simp [List.lookup, this]
      | some j =>
        show some (i + 1 + j) = some (i + (j + 1))
        rw [show i + 1 + j = i + (j + 1) by omega]
/-- What placesOf leaves. -/
def PlP (l : List Fun) (n : Nat) (w : World) (e : Ending) (w' : World) : Prop := ((twice [] l = .ok () ∧ e = .returned (.map (some w.heap.size)) ∧ PlAt w' w.heap.size n (plF 0 l [])) ∨ (∃ k a, twice [] l = .error (k, a) ∧ ThrewI k a e w')) ∧ Below w.heap.size w w'
set_option maxRecDepth 100000 in
set_option maxHeartbeats 4000000 in
theorem places_any {S : Nat → Prop} (w : World) (v : Value) (n : Nat) (cs : List Value) (l : List Fun) (hr : RowS S w 86 4 v n cs) (hn : n = l.length) (hn12 : n ≤ 12) (hnm : ∀ F ∈ l, F.nm.length ≤ 1000000)
    (ho : ∀ (i : Nat) (f : Fun), l[i]? = some f → ∃ (vp vb : Value) (nb : Nat) (bcs : List Value), RowS S w 144 2 vp f.ps.length (psC f.ps) ∧ RowS S w 147 7 vb nb bcs ∧ StAt S w f.body bcs ∧ cs[i * 4]? = some (str f.nm) ∧ cs[i * 4 + 1]? = some (.int .i64 f.at') ∧ cs[i * 4 + 2]? = some vp ∧ cs[i * 4 + 3]? = some vb) :
    Calls Tryz.prog 39 #[v] w (PlP l n w) := by
  have hmm : ∀ W : World, (Instr.makeMap 92 (some (.int .i64 (n : Int)))).run Tryz.prog W = .ok (.map (some W.heap.size)) (W.alloc (.map #[] 0)) := fun W => by simp [Instr.makeMap, go_sem]
  obtain ⟨q, c, rfl⟩ := own_slice hr.1
  have m0 : PlAt (w.alloc (.map #[] 0)) w.heap.size 0 [] := World.ownsMap_made w Tryz.prog 9 (plainElem (H := Unit) Tryz.prog 3)
  have HM0 : Hid (PlAt (w.alloc (.map #[] 0)) w.heap.size 0 []) := m0
  have HR : Hid (RowS S w 86 4 (.slice q n c) n cs) := hr
  have HO : Hid (∀ (i : Nat) (f : Fun), l[i]? = some f → ∃ (vp vb : Value) (nb : Nat) (bcs : List Value), RowS S w 144 2 vp f.ps.length (psC f.ps) ∧ RowS S w 147 7 vb nb bcs ∧ StAt S w f.body bcs ∧ cs[i * 4]? = some (str f.nm) ∧ cs[i * 4 + 1]? = some (.int .i64 f.at') ∧ cs[i * 4 + 2]? = some vp ∧ cs[i * 4 + 3]? = some vb) := ho
  have HN : Hid (n = l.length ∧ ∀ F ∈ l, F.nm.length ≤ 1000000) := ⟨hn, hnm⟩
  have HG0 : Hid (∀ e w', PlP l n w e w' → PlP l n w e w') := fun _ _ h => h
  generalize hG : PlP l n w = G at *
  clear HG0
  have HG0 : Hid (∀ e w', PlP l n w e w' → G e w') := fun e w' h => by rw [← hG]; exact h
  clear hr ho hn hnm m0 hG
  go_enter Tryz.func39, Tryz.ntmps39
  go_wp2_with fail
  go_loopw [13] (fun v wr => ∃ i : Nat, i ≤ n ∧ v = .int .i64 i ∧ Hid (∃ ns, twice [] l = twice ns (l.drop i) ∧ ∀ nm, ns.contains nm = ((plF 0 (l.take i) []).lookup nm).isSome) ∧ Hid (PlAt wr w.heap.size i (plF 0 (l.take i) [])) ∧ Hid (Below w.heap.size w wr)) (fun v _ => n - (intOf v).toNat)
  case atStart => exact ⟨0, Nat.zero_le _, rfl, ⟨[], by simp, fun nm => by simp [plF]⟩, HM0.out, (Below.refl _ _).alloc (Nat.le_refl _) _⟩
  case round =>
    obtain ⟨i, hin, rfl, HI, HP, HB⟩ := hrel
    by_cases hlt : i < n
    · obtain ⟨g, cap, e, -, -⟩ := HR.out.1.form (by omega)
      injection e with e1 e2 e3
      subst e1
      clear e2 e3
      obtain ⟨F, hF⟩ : ∃ F, l[i]? = some F := ⟨l[i]'(by have := HN.out.1; omega), List.getElem?_eq_getElem (by have := HN.out.1; omega)⟩
      obtain ⟨vp, vb, nb, bcs, r1, r2, r3, a0, a1, a2, a3⟩ := HO.out i F hF
      obtain ⟨qp, cp, rfl⟩ := own_slice r1.1
      obtain ⟨qb, cb, rfl⟩ := own_slice r2.1
      obtain ⟨y, hy, hyt⟩ := str_y F.nm
      rw [hy] at a0
      have hysz : y.size ≤ 1000000 := by rw [← j_len, hyt]; exact HN.out.2 F (List.mem_of_getElem? hF)
      have hrow := HR.out.1.kept (grown_none HB.out) (.inr (by simp [Value.ownBlock]))
      have hc : ∀ (j : Nat) (u : Value), cs[i * 4 + j]? = some u → wr.cell? ⟨g, i * 4 + j, none⟩ = some u := fun j u hu => by
        have := hrow.cells (g := g) rfl (i * 4 + j) u hu
        rw [add_plain'] at this
        exact this
      have q0 := hc 0 _ a0
      have q1 := hc 1 _ a1
      have q2 := hc 2 _ a2
      have q3 := hc 3 _ a3
      rw [Nat.add_zero] at q0
      have htk : l.take (i + 1) = l.take i ++ [F] := by rw [List.take_add_one, hF]; rfl
      have hpl : plF 0 (l.take (i + 1)) [] = (y.data.toList, i) :: plF 0 (l.take i) [] := by
        rw [htk, plF_snoc, hyt, List.length_take, Nat.min_eq_left (by have := HN.out.1; omega)]
        simp
      have hdr : l.drop i = F :: l.drop (i + 1) := by
        rw [List.drop_eq_getElem_cons (by have := HN.out.1; omega)]
        congr 1
        have := List.getElem?_eq_getElem (l := l) (i := i) (by have := HN.out.1; omega)
        rw [hF] at this
        exact (Option.some.inj this).symm
      obtain ⟨ns, hns1, hns2⟩ := HI.out
      rw [hdr, twice, hns2 F.nm, ← hyt] at hns1
      obtain ⟨aF, haF⟩ : ∃ aF, aF = F.at' := ⟨_, rfl⟩
      rw [← haF] at q1 hns1
      generalize F.ps.length = np at *
      have hbW : Below wr.heap.size wr (wr.alloc (.cells #[.string y, .int .i64 aF, .slice qp np cp, .slice qb nb cb] 86)) := (Below.refl _ _).alloc (Nat.le_refl _) _
      have hMlt : w.heap.size < wr.heap.size := World.ownsMap.lt HP.out
      have hPW : PlAt (wr.alloc (.cells #[.string y, .int .i64 aF, .slice qp np cp, .slice qb nb cb] 86)) w.heap.size i (plF 0 (l.take i) []) := HP.out.below hbW hMlt
      have hlook := pl_look hPW y hysz
      have HBW : Hid (Below w.heap.size w (wr.alloc (.cells #[.string y, .int .i64 aF, .slice qp np cp, .slice qb nb cb] 86))) := HB.out.trans (hbW.mono HB.out.size)
      cases hl : (plF 0 (l.take i) []).lookup y.data.toList with
      | some j =>
        rw [hl] at hlook hns1
        have hlook' : (Instr.lookup 92 (.map (some w.heap.size)) (.string y) true).run Tryz.prog (wr.alloc (.cells #[.string y, .int .i64 aF, .slice qp np cp, .slice qb nb cb] 86)) = .ok (.tuple #[.int .i64 (j : Int), .bool true]) (wr.alloc (.cells #[.string y, .int .i64 aF, .slice qp np cp, .slice qb nb cb] 86)) := hlook
        have HT : Hid (twice [] l = .error (9, aF)) := by show _ = _; rw [hns1]; rfl
        clear hrow hc a0 a1 a2 a3 hF r1 r2 r3 hy hyt htk hpl hdr hns1 hns2 haF hlook hPW hbW hl HI
        go_wp2_with (go_at_call 64; fail)
        refine (throw_any 9 aF _).mono ?_
        rintro e w2 ⟨⟨b2, rfl, hb2⟩, hw⟩
        exact ⟨rfl, HG0.out _ _ ⟨.inr ⟨9, aF, HT.out, b2, rfl, hb2⟩, HBW.out.trans (hw.mono HBW.out.size)⟩⟩
      | none =>
        rw [hl] at hlook hns1
        have hlook' : (Instr.lookup 92 (.map (some w.heap.size)) (.string y) true).run Tryz.prog (wr.alloc (.cells #[.string y, .int .i64 aF, .slice qp np cp, .slice qb nb cb] 86)) = .ok (.tuple #[.int .i64 0, .bool false]) (wr.alloc (.cells #[.string y, .int .i64 aF, .slice qp np cp, .slice qb nb cb] 86)) := hlook
        obtain ⟨w2, hup, hp2, hg2⟩ := pl_put hPW (by omega) y hysz i (by omega)
        have HI2 : Hid (∃ ns, twice [] l = twice ns (l.drop (i + 1)) ∧ ∀ nm, ns.contains nm = ((plF 0 (l.take (i + 1)) []).lookup nm).isSome) := by
          refine ⟨F.nm :: ns, by rw [hns1, hyt]; rfl, fun nm => ?_⟩
          rw [hpl, List.contains_cons, List.lookup_cons, hns2 nm, hyt]
          cases nm == F.nm <;> simp
        have HP2 : Hid (PlAt w2 w.heap.size (i + 1) (plF 0 (l.take (i + 1)) [])) := by show PlAt _ _ _ _; rw [hpl]; exact hp2
        have HB2 : Hid (Below w.heap.size w w2) := HBW.out.grown hg2 HBW.out.size (fun k e => by injection e with e; omega)
        clear hrow hc a0 a1 a2 a3 hF r1 r2 r3 hy hyt htk hpl hdr hns1 hns2 haF hlook hPW hbW hl HI hp2 hg2
        go_wp2
        exact ⟨⟨i + 1, by omega, by go_num, HI2, HP2, HB2⟩, by simp [intOf]; omega⟩
    · obtain rfl : i = n := by omega
      have HEnd : Hid (G (.returned (.map (some w.heap.size))) wr) := HG0.out _ _ ⟨.inl ⟨(by
        obtain ⟨ns, h1, _⟩ := HI.out
        rw [h1, List.drop_of_length_le (by have := HN.out.1; omega)]
        rfl), rfl, (by have := HP.out; rw [List.take_of_length_le (by have := HN.out.1; omega)] at this; exact this)⟩, HB.out⟩
      clear hlt
      go_wp2
      exact HEnd.out
set_option maxRecDepth 100000 in
set_option maxHeartbeats 2000000 in
theorem found_idle (p : Addr) (w : World) :
    CallsD Tryz.prog 38 #[.pointer (some p)] .returning w fun e u' w' => e = .returned (.tuple #[]) ∧ u' = .returning ∧ w' = w := by
  have h1 := eq_nil
  refine callsD_of_wpS Tryz.func38 rfl fun c₀ cs hu => ?_
  apply wpS_seq
  apply wpS_region
  simp [wpOpsS, go_sem, recoverD, hu, Tryz.ntmps38, Exit.thenS]
  apply wpS_seq
  apply wpS_seq
  apply wpS_region
  simp [wpOpsS, go_sem, Exit.thenS, h1]
  refine wpS_cond (t := true) (by simp [Act.eval, Array.replicate]) ?_
  simp only [if_true]
  refine wpS_of_wp (wp_ret ?_)
  cases c₀
  simp_all [bodyPostS, results, Tryz.results38, Exit.thenS]
set_option maxRecDepth 100000 in
set_option maxHeartbeats 2000000 in
theorem found_threw (b1 a : Nat) (x : Value) (w : World) (h1 : w.cell? ⟨b1, 0, none⟩ = some x) (f1 : w.frozen? ⟨b1, 0, none⟩ = false) :
    CallsD Tryz.prog 38 #[.pointer (some ⟨b1, 0, none⟩)] (.panicking [{ v := .iface 72 (.pointer (some ⟨a, 0, none⟩)), recovered := false }]) w fun e u' w' => e = .returned (.tuple #[]) ∧ u' = .panicking [{ v := .iface 72 (.pointer (some ⟨a, 0, none⟩)), recovered := true }] ∧ w' = w.setCell ⟨b1, 0, none⟩ (.iface 72 (.pointer (some ⟨a, 0, none⟩))) := by
  have e1 := eq_some
  have e2 := as_at
  refine callsD_of_wpS Tryz.func38 rfl fun c₀ cs hu => ?_
  apply wpS_seq
  apply wpS_region
  simp [wpOpsS, go_sem, recoverD, hu, Tryz.ntmps38, Exit.thenS]
  apply wpS_seq
  apply wpS_seq
  apply wpS_region
  simp [wpOpsS, go_sem, Exit.thenS, e1]
  refine wpS_cond (t := false) (by simp [Act.eval, Array.replicate]) ?_
  simp only [Bool.false_eq_true, if_false]
  refine wpS_of_wp (wp_skip ?_)
  simp only [Exit.thenS]
  apply wpS_seq
  apply wpS_region
  simp [wpOpsS, go_sem, Exit.thenS, e2]
  apply wpS_seq
  apply wpS_seq
  apply wpS_region
  simp [wpOpsS, go_sem, Exit.thenS]
  refine wpS_cond (t := false) (by simp [Act.eval, Array.replicate]) ?_
  simp only [Bool.false_eq_true, if_false]
  refine wpS_of_wp (wp_skip ?_)
  simp only [Exit.thenS]
  apply wpS_region
  simp [wpOpsS, go_sem, h1, f1, bodyPostS, results, Tryz.results38]
theorem res13 (tmps : Array Value) (W : World) (b1 : Nat) (x : Value) (hp1 : tmps[2]?.getD undef = .pointer (some ⟨b1, 0, none⟩)) (h1 : W.cell? ⟨b1, 0, none⟩ = some x) :
    (results Tryz.f16 tmps).run Tryz.prog W = .ok x W := by
  simp [results, Tryz.results16, go_sem, hp1, h1]
/-- What a program's functions are, in memory. -/
structure LiS (S : Nat → Prop) (w : World) (v : Value) (l : List Fun) : Prop where
  row : ∃ cs, RowS S w 86 4 v l.length cs ∧ ∀ (i : Nat) (f : Fun), l[i]? = some f → ∃ (vp vb : Value) (nb : Nat) (bcs : List Value), RowS S w 144 2 vp f.ps.length (psC f.ps) ∧ RowS S w 147 7 vb nb bcs ∧ StAt S w f.body bcs ∧ cs[i * 4]? = some (str f.nm) ∧ cs[i * 4 + 1]? = some (.int .i64 f.at') ∧ cs[i * 4 + 2]? = some vp ∧ cs[i * 4 + 3]? = some vb
theorem LiS.kept {S : Nat → Prop} {w w' : World} {v : Value} {l : List Fun} (h : LiS S w v l) (hk : Keeps S w w') : LiS S w' v l := by
  obtain ⟨cs, h1, h2⟩ := h.row
  refine ⟨cs, h1.kept hk (by decide), fun i f hf => ?_⟩
  obtain ⟨vp, vb, nb, bcs, a1, a2, a3, a4⟩ := h2 i f hf
  exact ⟨vp, vb, nb, bcs, a1.kept hk (by decide), a2.kept hk (by decide), StAt.kept hk _ _ a3, a4⟩
theorem LiS.mono {S S' : Nat → Prop} {w : World} {v : Value} {l : List Fun} (h : LiS S w v l) (hm : ∀ b, S b → b < w.heap.size → S' b) : LiS S' w v l := by
  obtain ⟨cs, h1, h2⟩ := h.row
  refine ⟨cs, h1.mono hm, fun i f hf => ?_⟩
  obtain ⟨vp, vb, nb, bcs, a1, a2, a3, a4⟩ := h2 i f hf
  exact ⟨vp, vb, nb, bcs, a1.mono hm, a2.mono hm, StAt.mono hm _ _ a3, a4⟩
/-- So a checker may look up. -/
theorem fx_of {w : World} {C M : Nat} {v : Value} {l : List Fun} (hl : LiS (Lo C) w v l) (hC : C ≤ w.heap.size) (hM : M < C) (hp : PlAt w M l.length (plF 0 l [])) (hn : (l.map (·.nm)).Nodup) (h12 : l.length ≤ 12) (hps : ∀ F ∈ l, F.ps.length ≤ 1000000) : FxS w C v (.map (some M)) l := by
  refine ⟨hC, fun w' hb i F hF => ?_, fun w' hb nm hnm => ?_, h12⟩
  · obtain ⟨cs, h1, h2⟩ := (hl.kept (lo_keeps hb)).row
    obtain ⟨vp, vb, nb, bcs, a1, a2, a3, a4, a5, a6, a7⟩ := h2 i F hF
    have hlt : i < l.length := (List.getElem?_eq_some_iff.1 hF).1
    obtain ⟨g, cap, e, -, -⟩ := h1.1.form (by omega)
    subst e
    refine ⟨g, cap, vp, rfl, ?_, a1.1, hps F (List.mem_of_getElem? hF)⟩
    have := h1.1.cells (g := g) rfl (i * 4 + 2) vp a6
    rw [add_plain'] at this
    exact this
  · have hp' := hp.below hb hM
    rw [pl_look hp' nm hnm, plF_look nm.data.toList l 0 [] hn (fun F _ => rfl)]
    cases ixF nm.data.toList l with
    | none => rfl
    | some j => simp
end Go.Proofs.YtnfhpdbbfejioaaGreatDoor
