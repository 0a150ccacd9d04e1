/- A region that draws its order: an invariant in the place of all orders; statements, blocks that are ready stand. Package run: expressions that are made ready: of one part. -/
import Derived.Test.YtnfhpdbbfejioaaGreatDoorL16
namespace Go.Proofs.YtnfhpdbbfejioaaGreatDoor
set_option linter.unusedVariables false
set_option linter.unusedSimpArgs false
open Go Go.RowKit
theorem cnt_list : ∀ (l : List Bool) (i : Nat), l[i]? = some false → (l.set i true).count false + 1 = l.count false
  | [], i, h => by simp at h
  | b :: l, 0, h => by
    simp only [List.getElem?_cons_zero, Option.some.injEq] at h
    subst h
    simp
  | b :: l, i + 1, h => by
    simp only [List.getElem?_cons_succ] at h
    have := cnt_list l i h
    simp only [List.set_cons_succ, List.count_cons]
    omega
theorem cnt_set {l : Array Bool} {i : Nat} (h : l.getD i true = false) : (l.setIfInBounds i true).toList.count false + 1 = l.toList.count false := by
  have h' : l.toList[i]? = some false := by
    rw [Array.getElem?_toList]
    rcases Nat.lt_or_ge i l.size with hi | hi
    · rw [Array.getElem?_eq_getElem hi]
      simp [Array.getD, hi] at h
      rw [h]
    · simp [Array.getD, Nat.not_lt.2 hi] at h
  rw [Array.toList_setIfInBounds]
  exact cnt_list _ _ h'
/-- An invariant of whatever order, up to where all of a part have come up. -/
theorem wpAnyH_meet {P : Program} {md : Region.Mode} {ops : Array Oper} {Q : Exit → Act → World → Prop} {S : World → Prop} {I : Array Bool → Act → World → Prop} {stop : Array Bool} {n : Nat}
    (hn : stop.toList.count false = n)
    (hstep : ∀ listed a w, I listed a w → listed ≠ stop → Region.ready md ops listed ≠ [] ∧ ∀ i ∈ Region.ready md ops listed, wpOp P ops Q i (fun a' w' => S w' ∧ I (listed.setIfInBounds i true) a' w') a w)
    (hstop : ∀ a w, I stop a w → wpAnyH P md ops Q S n stop a w)
    (hcnt : ∀ listed a w, I listed a w → listed.toList.count false ≤ n → listed = stop) :
    ∀ (fuel : Nat) (listed : Array Bool) (a : Act) (w : World), I listed a w → listed.toList.count false = fuel → n ≤ fuel → wpAnyH P md ops Q S fuel listed a w
  | 0, listed, a, w, hI, hc, hle => by
    obtain rfl : n = 0 := by omega
    obtain rfl := hcnt listed a w hI (by omega)
    exact hstop a w hI
  | fuel + 1, listed, a, w, hI, hc, hle => by
    by_cases hs : listed = stop
    · subst hs
      have e : n = fuel + 1 := by omega
      rw [← e]
      exact hstop a w hI
    · obtain ⟨h1, h2⟩ := hstep listed a w hI hs
      refine wpAnyH_all rfl h1 fun i hi => wpOp_mono (fun a' w' h => ⟨h.1, ?_⟩) (h2 i hi)
      have h0 := (mem_ready.1 hi).1
      have h3 := cnt_set h0
      refine wpAnyH_meet hn hstep hstop hcnt fuel _ a' w' h.2 (by omega) ?_
      rcases Nat.lt_or_ge fuel n with hlt | hge
      · exact absurd (hcnt listed a w hI (by omega)) hs
      · exact hge
theorem StmtC.kept {w w' : World} (h : Ks w w') {bs : Nat} {nm : By} (hs : StmtC w bs nm) : StmtC w' bs nm := by
  obtain ⟨b, o, h1, cs, h2, h3⟩ := hs
  exact ⟨b, o, h _ _ _ (by decide) (fun e => absurd e (by decide)) h1, cs, h _ _ _ (by decide) (fun e => absurd e (by decide)) h2, h3⟩
theorem ClB.row {w : World} {P : Nat} : ∀ (t : Tr) (us : List Value), ClB w P t us → Value.nilFunc ∉ us.toArray := fun t us h => by
  unfold ClB at h
  split at h
  · rename_i c _ a _ nm ix v th el g
    obtain ⟨u, rest, rfl, hr, h⟩ := h
    have := ClB.row g rest hr
    simp only [List.mem_toArray, List.mem_cons, not_or] at this ⊢
    refine ⟨fun e => ?_, this⟩
    rcases h with ⟨_, bi, bv, bs, vi, vv, rfl, _⟩ | ⟨_, bv, bt, be, vt, ve, vv, at', ae, pt, pe, gt', ge, ts, es, rfl, _⟩ | ⟨_, bv, bt, bp, vv, vt, at', pt, gt', ts, rfl, _⟩ | ⟨_, bv, vv, rfl, _⟩ | ⟨_, bp, bv, vv, rfl, _⟩ | ⟨_, bv, vv, rfl, _⟩ | ⟨_, bv, bs, vv, rfl, _⟩
    all_goals cases e
  · subst h
    simp
  · exact h.elim
theorem ClB.kept {w w' : World} {P : Nat} (h1 : Ks w w') (t : Tr) (us : List Value) (h : ClB w P t us) : ClB w' P t us := by
  unfold ClB at h
  split at h
  · rename_i c _ a _ nm ix v th el g
    have it := ClB.kept h1 (P := P) th
    have ie := ClB.kept h1 (P := P) el
    have ig := ClB.kept h1 (P := P) g
    have k : ∀ (b : Nat) (v : Value) (t : TypeId), t ≠ 60 → v ≠ .nilFunc → w.heap[b]? = some (.cells #[v] t) → w'.heap[b]? = some (.cells #[v] t) := fun b v t ht hv hb => h1 _ _ _ ht (fun _ => by simpa using fun e => hv e.symm) hb
    have kr : ∀ (b : Nat) (t : Tr) (ts : List Value), ClB w P t ts → w.heap[b]? = some (.cells ts.toArray 67) → w'.heap[b]? = some (.cells ts.toArray 67) := fun b t ts hc hb => h1 _ _ _ (by decide) (fun _ => ClB.row t ts hc) hb
    have ke := fun (t : Tr) (v : Value) (h : ClE w P t v) => ClE.kept h1 t v h
    rw [ClB]
    obtain ⟨u, rest, rfl, hr, h⟩ := h
    refine ⟨u, rest, rfl, ig _ hr, ?_⟩
    rcases h with ⟨e, bi, bv, bs, vi, vv, e1, e2, e3, e4, e5, e6⟩ | ⟨e, bv, bt, be, vt, ve, vv, at', ae, pt, pe, gt', ge, ts, es, e1, e2, e3, e4, e5, t1, t2, t3, t4, t5, s1, s2, s3, s4, s5⟩ | ⟨e, bv, bt, bp, vv, vt, at', pt, gt', ts, e1, e2, e3, e4, e5, t1, t2, t3, t4, t5⟩ | ⟨e, bv, vv, e1, e2, e3⟩ | ⟨e, bp, bv, vv, e1, e2, e3, e4⟩ | ⟨e, bv, vv, e1, e2, e3⟩ | ⟨e, bv, bs, vv, e1, e2, e3, e4⟩
    · exact .inl ⟨e, bi, bv, bs, vi, vv, e1, k _ _ _ (by decide) e5.isf e2, k _ _ _ (by decide) e6.isf e3, e4.kept h1, ke _ _ e5, ke _ _ e6⟩
    · exact .inr (.inl ⟨e, bv, bt, be, vt, ve, vv, at', ae, pt, pe, gt', ge, ts, es, e1, k _ _ _ (by decide) e5.isf e2, k _ _ _ (by decide) (by rw [t1]; simp) e3, k _ _ _ (by decide) (by rw [s1]; simp) e4, ke _ _ e5, t1, k _ _ _ (by decide) (by simp) t2, kr _ _ _ t5 t3, k _ _ _ (by decide) (by simp) t4, it _ t5, s1, k _ _ _ (by decide) (by simp) s2, kr _ _ _ s5 s3, k _ _ _ (by decide) (by simp) s4, ie _ s5⟩)
    · exact .inr (.inr (.inl ⟨e, bv, bt, bp, vv, vt, at', pt, gt', ts, e1, k _ _ _ (by decide) e5.isf e2, k _ _ _ (by decide) (by rw [t1]; simp) e3, k _ _ _ (by decide) (by simp) e4, ke _ _ e5, t1, k _ _ _ (by decide) (by simp) t2, kr _ _ _ t5 t3, k _ _ _ (by decide) (by simp) t4, it _ t5⟩))
    · exact .inr (.inr (.inr (.inl ⟨e, bv, vv, e1, k _ _ _ (by decide) e3.isf e2, ke _ _ e3⟩)))
    · exact .inr (.inr (.inr (.inr (.inl ⟨e, bp, bv, vv, e1, k _ _ _ (by decide) (by simp) e2, k _ _ _ (by decide) e4.isf e3, ke _ _ e4⟩))))
    · exact .inr (.inr (.inr (.inr (.inr (.inl ⟨e, bv, vv, e1, k _ _ _ (by decide) e3.isf e2, ke _ _ e3⟩)))))
    · exact .inr (.inr (.inr (.inr (.inr (.inr ⟨e, bv, bs, vv, e1, k _ _ _ (by decide) e4.isf e2, e3.kept h1, ke _ _ e4⟩)))))
  · rw [ClB]; exact h
  · exact h.elim
theorem BlV.kept {w w' : World} {P : Nat} (h1 : Ks w w') {t : Tr} {v : Value} (h : BlV w P t v) : BlV w' P t v := by
  obtain ⟨a, p, g, ts, e, h2, h3, h4, h5⟩ := h
  exact ⟨a, p, g, ts, e, h1 _ _ _ (by decide) (fun e => absurd e (by decide)) h2, h1 _ _ _ (by decide) (fun _ => ClB.row t ts h5) h3, h1 _ _ _ (by decide) (fun e => absurd e (by decide)) h4, ClB.kept h1 t ts h5⟩
theorem ClB.below {w w' : World} {P : Nat} {t : Tr} {us : List Value} (h : ClB w P t us) (hb : Below w.heap.size w w') : ClB w' P t us := ClB.kept (Ks.below hb) t us h
theorem BlV.below {w w' : World} {P : Nat} {t : Tr} {v : Value} (h : BlV w P t v) (hb : Below w.heap.size w w') : BlV w' P t v := h.kept (Ks.below hb)
set_option maxRecDepth 100000 in
set_option maxHeartbeats 2000000 in
theorem cm_len {a n : Int} {nm op : By} {l r g : Tr} (hl : CmE l) (hn : IsNd l) : CmE (nd 7 a n nm op l r g) := by
  intro S w P v hx
  obtain ⟨q, vl, vr, vg, ys, rfl, hq, hxl, -, -, -⟩ := nd_openS hx
  obtain ⟨ql, rfl⟩ := part_ptr hn hxl
  have hmf := mkf
  have c0 := cell_at (i := 0) hq rfl
  have c5 := cell_at (i := 5) hq rfl
  have HQ : Hid (w.heap[q]? = some (.cells #[.int .i64 7, .int .i64 a, .int .i64 n, str nm, str op, ptr ql, vr, vg] 252)) := hq
  have hlt : q < w.heap.size := (Array.getElem?_eq_some_iff.1 hq).1
  have HC : Hid (∀ W, Below w.heap.size w W → Calls Tryz.prog 138 #[ptr P, ptr ql] W (CmP P l W)) := fun W hb => hl S W P _ (ex_below hb hxl)
  clear hx hq hxl
  go_enter Tryz.func138, Tryz.ntmps138
  go_wp2_with fail
  obtain ⟨W0, hW0⟩ : ∃ W0, W0 = (w.alloc (.cells #[ptr P] 57)).alloc (.cells #[ptr q] 145) := ⟨_, rfl⟩
  have HB0 : Hid (Below w.heap.size w W0) := by rw [hW0]; exact bel2 _ _ _
  have HS0 : Hid (W0.heap.size = w.heap.size + 2) := by rw [hW0]; simp [Hid]
  have p1 : W0.cell? ⟨w.heap.size, 0, none⟩ = some (ptr P) := by rw [hW0]; exact cell_at (i := 0) (al1 _ _ _) rfl
  have p2 : W0.cell? ⟨w.heap.size + 1, 0, none⟩ = some (ptr q) := by rw [hW0]; exact cell_at (i := 0) (al2 _ _ _) rfl
  have p3 : W0.cell? ⟨q, 5, none⟩ = some (ptr ql) := by rw [hW0]; exact cell_at (i := 5) (row_alloc (row_alloc HQ.out _) _) rfl
  have hz : w.heap.size + 1 < W0.heap.size := by have := HS0.out; omega
  have hz0 : w.heap.size < W0.heap.size := by omega
  have hq0 : q < W0.heap.size := by omega
  have m1 : w.heap.size ≠ W0.heap.size := by omega
  have m2 : w.heap.size + 1 ≠ W0.heap.size := by omega
  have m3 : q ≠ W0.heap.size := by omega
  rw [← hW0]
  clear hW0 c0 c5
  go_region_held3 (fun w' => w'.cell? ⟨w.heap.size, 0, none⟩ = some (ptr P) ∧ w'.cell? ⟨w.heap.size + 1, 0, none⟩ = some (ptr q) ∧ w'.cell? ⟨q, 5, none⟩ = some (ptr ql))
    (first | go_keep | (refine ⟨?_, ?_, ?_⟩ <;> first | (go_simp; done) | (simp [*]; done) | (rw [World.cell?_setCell_other (by intro e; injection e; omega)]; assumption)))
    (first | (go_at_call 138; refine (HC.out _ (by first | exact HB0.out.drew | exact (HB0.out.alloc (by have := HS0.out; omega) _).drew | exact (HB0.out.drew.alloc (by have := HS0.out; simp; omega) _))).mono ?_; rintro e w1 ⟨k1, cp1, rfl, hcl, hb1⟩; have hcc := fun b o h => hb1.cell (p := ⟨b, o, none⟩) h; have hff := fun b o h => hb1.frozen (p := ⟨b, o, none⟩) h; have t1 : w1.cell? ⟨w.heap.size, 0, none⟩ = some (ptr P) := (hcc _ _ (by first | (simp; done) | (simp; omega))).trans (by go_simp); have t2 : w1.cell? ⟨w.heap.size + 1, 0, none⟩ = some (ptr q) := (hcc _ _ (by first | (simp; done) | (simp; omega))).trans (by go_simp); have t3 : w1.cell? ⟨q, 5, none⟩ = some (ptr ql) := (hcc _ _ (by first | (simp; done) | (simp; omega))).trans (by go_simp); have t4 := hb1.size; simp at t4; have u1 : w.heap.size < w1.heap.size := (by omega); have u2 : w.heap.size + 1 < w1.heap.size := (by omega); have u3 : q < w1.heap.size := (by omega)))
  all_goals first
    | (obtain ⟨g1, g2, g3⟩ := late (HB0.out.trans ((undrew hb1).mono HB0.out.size)) hcl; clear hcc hff; have G1 : Hid (_ ∧ _ ∧ _) := ⟨g1, g2, g3⟩; clear g1 g2 g3; go_wp2; go_ret; obtain ⟨g1, g2, g3⟩ := G1.out; exact ⟨_, _, rfl, by rw [ClE]; exact .inr (.inr (.inr (.inr (.inr (.inr (.inl ⟨rfl, _, _, rfl, g1, g2⟩)))))), g3⟩)
    | (obtain ⟨g1, g2, g3⟩ := early HB0.out (undrew hb1) hcl; clear hcc hff; have G1 : Hid (_ ∧ _ ∧ _) := ⟨g1, g2, g3⟩; clear g1 g2 g3; go_wp2; go_ret; obtain ⟨g1, g2, g3⟩ := G1.out; exact ⟨_, _, rfl, by rw [ClE]; exact .inr (.inr (.inr (.inr (.inr (.inr (.inl ⟨rfl, _, _, rfl, g1, g2⟩)))))), g3⟩)
/-! ### Of a mark of one -/
theorem tl_yes {y : ByteArray} {op l : By} (h : y.data.toList = op) (e : op = l) : (y.toList == l) = true := by rw [← tl_eq, h, e]; simp
theorem tl_no {y : ByteArray} {op l : By} (h : y.data.toList = op) (e : op ≠ l) : (y.toList == l) = false := by rw [← tl_eq, h]; simpa using e
set_option maxRecDepth 100000 in
set_option maxHeartbeats 2000000 in
theorem one_walk {a n : Int} {nm op : By} {l r g : Tr} (hl : CmE l) (hn : IsNd l) (S : Nat → Prop) (w : World) (P : Nat) (v : Value) (hx : ExAt S w (nd 4 a n nm op l r g) v) : Calls Tryz.prog 191 #[ptr P, v] w (CmP P (nd 4 a n nm op l r g) w) := by
  obtain ⟨q, vl, vr, vg, ys, rfl, hq, hxl, -, -, -⟩ := nd_openS hx
  obtain ⟨ql, rfl⟩ := part_ptr hn hxl
  have hmf := mkf
  have c5 := cell_at (i := 5) hq rfl
  obtain ⟨y, hy, hyt⟩ := str_y op
  have HQ : Hid (w.heap[q]? = some (.cells #[.int .i64 4, .int .i64 a, .int .i64 n, str nm, str op, ptr ql, vr, vg] 252)) := hq
  have hlt : q < w.heap.size := (Array.getElem?_eq_some_iff.1 hq).1
  have HC : Hid (∀ W, Below w.heap.size w W → Calls Tryz.prog 138 #[ptr P, ptr ql] W (CmP P l W)) := fun W hb => hl S W P _ (ex_below hb hxl)
  have HY : Hid (str op = .string y ∧ y.data.toList = op) := ⟨hy, hyt⟩
  clear hx hq hxl hy hyt
  go_enter Tryz.func191, Tryz.ntmps191
  go_wp2_with (go_at_call 138; fail)
  refine (HC.out _ (Below.refl _ _)).mono ?_
  rintro e w1 ⟨k1, cp1, rfl, hcl, hb1⟩
  have HL : Hid (_ ∧ _ ∧ _) := late hb1 hcl
  have hq1 : w1.heap[q]? = some (.cells #[.int .i64 4, .int .i64 a, .int .i64 n, str nm, .string y, ptr ql, vr, vg] 252) := by rw [hb1.block q hlt, HQ.out, HY.out.1]
  have c4 : (w1.alloc (.cells #[.func (.func k1) #[] cp1] 245)).cell? ⟨q, 4, none⟩ = some (.string y) := cell_at (i := 4) (row_alloc hq1 _) rfl
  have c4' : w1.cell? ⟨q, 4, none⟩ = some (.string y) := cell_at (i := 4) hq1 rfl
  have hq2 : q < w1.heap.size := Nat.lt_of_lt_of_le hlt hb1.size
  clear hcl hb1 hq1 c5
  by_cases ho : op = [45]
  · have hyb : (y.toList == [45]) = true := tl_yes HY.out.2 ho
    go_wp2
    go_ret
    obtain ⟨g1, g2, g3⟩ := HL.out
    exact ⟨_, _, rfl, by rw [ClE]; exact .inr (.inr (.inr (.inl ⟨rfl, _, _, by rw [if_pos ho], g1, g2⟩))), g3⟩
  · have hyb : (y.toList == [45]) = false := tl_no HY.out.2 ho
    go_wp2
    go_ret
    obtain ⟨g1, g2, g3⟩ := HL.out
    exact ⟨_, _, rfl, by rw [ClE]; exact .inr (.inr (.inr (.inl ⟨rfl, _, _, by rw [if_neg ho], g1, g2⟩))), g3⟩
set_option maxRecDepth 100000 in
set_option maxHeartbeats 2000000 in
theorem cm_un {a n : Int} {nm op : By} {l r g : Tr} (hl : CmE l) (hn : IsNd l) : CmE (nd 4 a n nm op l r g) := by
  intro S w P v hx
  have HX : Hid (ExAt S w (nd 4 a n nm op l r g) v) := hx
  obtain ⟨q, vl, vr, vg, ys, rfl, hq, -, -, -, -⟩ := nd_openS hx
  have c0 := cell_at (i := 0) hq rfl
  have hlt : q < w.heap.size := (Array.getElem?_eq_some_iff.1 hq).1
  have HC : Hid (∀ W, Below w.heap.size w W → Calls Tryz.prog 191 #[ptr P, ptr q] W (CmP P (nd 4 a n nm op l r g) W)) := fun W hb => one_walk hl hn S W P _ (ex_below hb HX.out)
  clear hx hq
  go_enter Tryz.func138, Tryz.ntmps138
  go_wp2_with (go_at_call 191; fail)
  refine (HC.out _ (bel2 _ _ _)).mono ?_
  rintro e w1 ⟨k1, cp1, rfl, hcl, hb1⟩
  have HH : Hid (_ ∧ _) := ⟨hcl, hb1⟩
  clear hcl hb1
  go_wp2
  go_ret
  exact ⟨_, _, rfl, HH.out.1, (bel2 _ _ _).trans (HH.out.2.mono (by simp; omega))⟩
end Go.Proofs.YtnfhpdbbfejioaaGreatDoor
