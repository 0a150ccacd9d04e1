/- HB HC -/
import Derived.Test.YtnfhpdbbfejioaaGreatDoorQ20
namespace Go.Proofs.YtnfhpdbbfejioaaGreatDoor
set_option linter.unusedVariables false
set_option linter.unusedSimpArgs false
set_option maxRecDepth 100000
set_option maxHeartbeats 4000000
open Go Go.RowKit
theorem info245 : (Tryz.prog.info? 245).map (fun i => (i.zero, i.size, i.bytes)) = some (some .nilFunc, 1, 8) := by kernel_rfl
theorem made_nil (n : Nat) : madeCells Value.nilFunc.cells (n * 1) = (List.replicate n Value.nilFunc).toArray := by
 apply Array.ext'
 rw [Nat.mul_one]
 show (madeCells #[Value.nilFunc] n).toList = _
 rw [toList_madeCells_one]
theorem mk_parts (n : Nat) (hn : n ≤ 1000000) (w : World) : (Instr.makeSlice 297 (.int .i64 (n : Int)) (.int .i64 (n : Int))).run Tryz.prog w = .ok (.slice (some ⟨w.heap.size, 0, none⟩) n n) (w.alloc (.cells (List.replicate n Value.nilFunc).toArray 245)) := by
 obtain ⟨i, hi, hz0, hz1, hz2⟩ := qt info245
 have := run_makeSlice w 297 245 i _ Tryz.underlying297 hi hz0 .i64 .i64 (n : Int) (n : Int) (by omega) (by omega) (by rw [hz1]; simp; omega) (by rw [hz2]; omega) (by omega)
 rw [hz1] at this
 simp only [Int.toNat_natCast, made_nil] at this
 exact this
theorem ex_chain {S : Nat → Prop} {w : World} : ∀ (xs : List Tr) (ys : List Value), ExAt S w (chain xs) (.tuple ys.toArray) → ys.length = xs.length ∧ ∀ (i : Nat) (x : Tr) (y : Value), xs[i]? = some x → ys[i]? = some y → ExAt S w x y
 | [], ys, h => by
  unfold chain at h
  rw [ExAt] at h
  have : ys = [] := by simpa using h
  subst this
  exact ⟨rfl, fun i x y hx => by simp at hx⟩
 | x :: xs, ys, h => by
  unfold chain at h
  rw [ExAt] at h
  obtain ⟨y, ys', e, h1, h2⟩ := h
  have e' : ys = y :: ys' := by simpa using e
  subst e'
  obtain ⟨a1, a2⟩ := ex_chain xs ys' h2
  refine ⟨by simp [a1], fun i x' y' hx hy => ?_⟩
  cases i with
  | zero =>
   simp only [List.getElem?_cons_zero, Option.some.injEq] at hx hy
   subst hx hy
   exact h1
  | succ i =>
   simp only [List.getElem?_cons_succ] at hx hy
   exact a2 i x' y' hx hy
theorem cle_of {w : World} {P : Nat} : ∀ (xs : List Tr) (zs : List Value), zs.length = xs.length → (∀ (i : Nat) (x : Tr) (u : Value), xs[i]? = some x → zs[i]? = some u → ClE w P x u) → ClE w P (chain xs) (.tuple zs.toArray)
 | [], zs, hl, _ => by
  have : zs = [] := by simpa using hl
  subst this
  unfold chain
  rw [ClE]
 | x :: xs, zs, hl, h => by
  cases zs with
  | nil => simp at hl
  | cons z zs =>
   unfold chain
   rw [ClE]
   exact ⟨z, zs, rfl, h 0 x z rfl rfl, cle_of xs zs (by simpa using hl) fun i x' u hx hu => h (i + 1) x' u (by simpa using hx) (by simpa using hu)⟩
theorem row_cell {w : World} {e n : Nat} {v : Value} {ys : List Value} (h : w.ownsRow 0 e 1 v n ys) : ∃ pg cg, v = .slice pg n cg ∧ ∀ (i : Nat) (y : Value), ys[i]? = some y → ∃ g cur, pg = some ⟨g, 0, none⟩ ∧ w.heap[g]? = some (.cells cur e) ∧ cur[i]? = some y := by
 obtain ⟨h1, ⟨rfl, rfl⟩ | ⟨g, cap, cur, rfl, _, hg, hc, _, _, ht⟩⟩ := h
 ·have e : ys = [] := by simpa using h1
  subst e
  exact ⟨none, 0, rfl, fun i y hy => by simp at hy⟩
 ·refine ⟨_, cap, rfl, fun i y hy => ⟨g, cur, rfl, hg, ?_⟩⟩
  rw [← ht, List.getElem?_take] at hy
  split at hy
  ·simpa using hy
  ·cases hy
structure CdI (w : World) (P q : Nat) (xs : List Tr) (n : Nat) (wr : World) (i : Nat) : Prop where
 at' : ∃ zs : List Value, zs.length = i ∧ Below w.heap.size w wr ∧ w.heap.size + 1 + 1 + 1 < wr.heap.size ∧ wr.heap[w.heap.size]? = some (.cells #[ptr P] 57) ∧ wr.heap[w.heap.size + 1]? = some (.cells #[ptr q] 145) ∧
  wr.heap[w.heap.size + 1 + 1]? = some (.cells (zs ++ List.replicate (n - i) Value.nilFunc).toArray 245) ∧ wr.heap[w.heap.size + 1 + 1 + 1]? = some (.cells #[.slice (some ⟨w.heap.size + 1 + 1, 0, none⟩) n n] 297) ∧
  ∀ (j : Nat) (x : Tr) (u : Value), xs[j]? = some x → zs[j]? = some u → ClE wr P x u
theorem cd_start (w : World) (P q : Nat) (xs : List Tr) (n : Nat) : CdI w P q xs n ((((w.alloc (.cells #[ptr P] 57)).alloc (.cells #[ptr q] 145)).alloc (.cells (Array.replicate n Value.nilFunc) 245)).alloc (.cells #[.slice (some ⟨w.heap.size + 1 + 1, 0, none⟩) n n] 297)) 0 := by
 have er : Array.replicate n Value.nilFunc = (List.replicate n Value.nilFunc).toArray := by simp
 rw [er]
 refine ⟨⟨[], rfl, ((jo _ _ _).alloc (by simp; omega) _).alloc (by simp; omega) _, by simp, zc (zc (al1 _ _ _) _) _, zc (zc (al2 _ _ _) _) _, ?_, ?_, fun j x u _ hu => by simp at hu⟩⟩
 ·refine zc ?_ _
  have := heap_alloc_last ((w.alloc (.cells #[ptr P] 57)).alloc (.cells #[ptr q] 145)) (.cells (List.replicate n Value.nilFunc).toArray 245)
  simpa using this
 ·have := heap_alloc_last (((w.alloc (.cells #[ptr P] 57)).alloc (.cells #[ptr q] 145)).alloc (.cells (List.replicate n Value.nilFunc).toArray 245)) (.cells #[.slice (some ⟨w.heap.size + 1 + 1, 0, none⟩) n n] 297)
  simpa using this
theorem fill_set (zs : List Value) (n i : Nat) (u : Value) (hz : zs.length = i) (hi : i < n) : (zs ++ List.replicate (n - i) Value.nilFunc).toArray.setIfInBounds i u = ((zs ++ [u]) ++ List.replicate (n - (i + 1)) Value.nilFunc).toArray := by
 obtain ⟨k, hk⟩ : ∃ k, n - i = k + 1 := ⟨n - i - 1, by omega⟩
 have e : n - (i + 1) = k := by omega
 rw [hk, e]
 simp only [List.setIfInBounds_toArray]
 rw [List.set_append_right _ _ (by omega), hz, Nat.sub_self, List.replicate_succ]
 simp
theorem fill_at (zs : List Value) (n i : Nat) (hz : zs.length = i) (hi : i < n) : (zs ++ List.replicate (n - i) Value.nilFunc).toArray[i]? = some Value.nilFunc := by
 simp only [List.getElem?_toArray]
 rw [List.getElem?_append_right (by omega), hz, Nat.sub_self, List.getElem?_replicate]
 simp
 omega
theorem cd_next {w : World} {P q : Nat} {xs : List Tr} {n : Nat} {wr w1 : World} {i : Nat} {x : Tr} {u : Value} (h : CdI w P q xs n wr i) (hi : i < n) (hx : xs[i]? = some x) (hb : Below wr.heap.size wr w1) (hc : ClE w1 P x u) : CdI w P q xs n (w1.setCell ⟨w.heap.size + 1 + 1, i, none⟩ u) (i + 1) := by
 obtain ⟨zs, hz, h1, hz3, h2, h3, h4, h5, h6⟩ := h.at'
 have k4 : w1.heap[w.heap.size + 1 + 1]? = some (.cells (zs ++ List.replicate (n - i) Value.nilFunc).toArray 245) := by rw [hb.block _ (by omega)]; exact h4
 have hks : Ks w1 (w1.setCell ⟨w.heap.size + 1 + 1, i, none⟩ u) := Ks.set' (.inl rfl) k4 (by simp; right; omega)
 have ho : ∀ b, b < wr.heap.size → b ≠ w.heap.size + 1 + 1 → (w1.setCell ⟨w.heap.size + 1 + 1, i, none⟩ u).heap[b]? = wr.heap[b]? := fun b hb1 hb2 => by rw [heap_setCell_other _ _ _ _ hb2, hb.block b hb1]
 refine ⟨⟨zs ++ [u], by simp [hz], (h1.trans (hb.mono (by omega))).setCell (p := ⟨w.heap.size + 1 + 1, i, none⟩) (by show w.heap.size ≤ w.heap.size + 1 + 1; omega) _, ?_, by rw [ho _ (by omega) (by omega)]; exact h2, by rw [ho _ (by omega) (by omega)]; exact h3, ?_, by rw [ho _ (by omega) (by omega)]; exact h5, fun j x' u' hx' hu' => ?_⟩⟩
 ·have := hb.size
  have e : (w1.setCell ⟨w.heap.size + 1 + 1, i, none⟩ u).heap.size = w1.heap.size := by simp [World.setCell]
  omega
 ·rw [← fill_set zs n i u hz hi]
  exact heap_setCell_same _ _ _ _ _ _ k4
 ·refine ClE.kept hks _ _ ?_
  by_cases hj : j < i
  ·rw [List.getElem?_append_left (by omega)] at hu'
   exact (h6 j x' u' hx' hu').below hb
  ·rw [List.getElem?_append_right (by omega)] at hu'
   obtain rfl : j = i := by
    have := (List.getElem?_eq_some_iff.1 hu').1
    simp at this
    omega
   rw [hz, Nat.sub_self] at hu'
   simp only [List.getElem?_cons_zero, Option.some.injEq] at hu'
   subst hu'
   rw [hx] at hx'
   injection hx' with hx'
   subst hx'
   exact hc
theorem cd_end {w : World} {P q : Nat} {xs : List Tr} {n : Nat} {wr : World} {a n0 : Int} {nm op : By} {l r : Tr} {vl vr vg : Value} (h : CdI w P q xs n wr n) (hn : n = xs.length) (hq : w.heap[q]? = some (.cells #[.int .i64 5, .int .i64 a, .int .i64 n0, str nm, str op, vl, vr, vg] 252)) :
  CmP P (nd 5 a n0 nm op l r (chain xs)) w (.returned (.func (.func 229) #[] #[ptr w.heap.size, ptr (w.heap.size + 1), ptr (w.heap.size + 1 + 1 + 1)])) wr := by
 obtain ⟨zs, hz, h1, hz3, h2, h3, h4, h5, h6⟩ := h.at'
 rw [Nat.sub_self, List.replicate_zero, List.append_nil] at h4
 refine ⟨_, _, rfl, ?_, h1⟩
 rw [ClE]
 refine .inr (.inr (.inr (.inr (.inl ⟨rfl, w.heap.size, w.heap.size + 1, w.heap.size + 1 + 1 + 1, w.heap.size + 1 + 1, zs, rfl, h2, ⟨q, vl, vr, vg, h3, ?_⟩, by rw [hz]; exact h5, h4, cle_of xs zs (by omega) h6⟩))))
 rw [h1.block q (Array.getElem?_eq_some_iff.1 hq).1]
 exact hq
theorem called_walk {a n0 : Int} {nm op : By} {l r : Tr} {xs : List Tr} (hxs : ∀ x ∈ xs, CmE x ∧ IsNd x) (h6 : xs.length ≤ 1000000) (S : Nat → Prop) (w : World) (P : Nat) (v : Value) (hx : ExAt S w (nd 5 a n0 nm op l r (chain xs)) v) : Calls Tryz.prog 192 #[ptr P, v] w (CmP P (nd 5 a n0 nm op l r (chain xs)) w) := by
 obtain ⟨q, vl, vr, vg, ys, rfl, hq, -, -, hrow, hch⟩ := qH hx
 obtain ⟨hyl, hye⟩ := ex_chain xs ys hch
 obtain ⟨pg, cg, rfl, hcell⟩ := row_cell hrow
 obtain ⟨n, hn⟩ : ∃ n, n = ys.length := ⟨_, rfl⟩
 have HN : Hid (n = xs.length ∧ n = ys.length) := ⟨by rw [hn, hyl], hn⟩
 have hn6 : n ≤ 1000000 := by rw [hn, hyl]; exact h6
 rw [← hn] at hq
 have c7 := z_ (i := 7) hq rfl
 have hmf := mkf
 have hmk := mk_parts n hn6
 have hlt : q < w.heap.size := (Array.getElem?_eq_some_iff.1 hq).1
 have m0 : q ≠ w.heap.size := by omega
 have m1 : q ≠ w.heap.size + 1 := by omega
 have m2 : q ≠ w.heap.size + 1 + 1 := by omega
 have m3 : q ≠ w.heap.size + 1 + 1 + 1 := by omega
 have HQ : Hid (w.heap[q]? = some (.cells #[.int .i64 5, .int .i64 a, .int .i64 n0, str nm, str op, vl, vr, .slice pg n cg] 252)) := hq
 have HCe : Hid (∀ (i : Nat) (y : Value), ys[i]? = some y → ∃ g cur, pg = some ⟨g, 0, none⟩ ∧ w.heap[g]? = some (.cells cur 145) ∧ cur[i]? = some y) := hcell
 have HEx : Hid (∀ (i : Nat) (x : Tr) (y : Value), xs[i]? = some x → ys[i]? = some y → ExAt S w x y) := hye
 have HXs : Hid (∀ x ∈ xs, CmE x ∧ IsNd x) := hxs
 clear hx hq hrow hch hyl hye hcell hn h6 hxs
 generalize hG : CmP P (nd 5 a n0 nm op l r (chain xs)) w = G
 have HG : Hid (CmP P (nd 5 a n0 nm op l r (chain xs)) w = G) := hG
 clear hG
 go_enter Tryz.func192, Tryz.ntmps192
 go_upto_region 2 with fail
 have HSt := cd_start w P q xs n
 obtain ⟨W4, hW4⟩ : ∃ W4, W4 = (((w.alloc (.cells #[ptr P] 57)).alloc (.cells #[ptr q] 145)).alloc (.cells (Array.replicate n Value.nilFunc) 245)).alloc (.cells #[.slice (some ⟨w.heap.size + 1 + 1, 0, none⟩) n n] 297) := ⟨_, rfl⟩
 rw [← hW4] at HSt ⊢
 have HS0 : Hid (CdI w P q xs n W4 0) := HSt
 have d1 : W4.cell? ⟨w.heap.size + 1, 0, none⟩ = some (ptr q) := by obtain ⟨zs, hz, h1, hz3, h2, h3, h4, h5, h6⟩ := HSt.at'; exact z_ (i := 0) h3 rfl
 have d7 : W4.cell? ⟨q, 7, none⟩ = some (.slice pg n cg) := by obtain ⟨zs, hz, h1, hz3, h2, h3, h4, h5, h6⟩ := HSt.at'; rw [h1.cell (p := ⟨q, 7, none⟩) hlt]; exact c7
 clear hW4 HSt c7
 go_wp2_with fail
 clear d1 d7
 go_loopw [19] (fun v wr => ∃ i : Nat, i ≤ n ∧ v = .int .i64 i ∧ Hid (CdI w P q xs n wr i)) (fun v _ => n - (intOf v).toNat)
 case atStart => exact ⟨0, Nat.zero_le _, rfl, HS0⟩
 case round =>
  obtain ⟨i, hin, rfl, HI⟩ := hrel
  by_cases hlt2 : i < n
  ·obtain ⟨x, hx⟩ : ∃ x, xs[i]? = some x := ⟨xs[i]'(by rw [← HN.out.1]; exact hlt2), List.getElem?_eq_getElem _⟩
   obtain ⟨y, hy⟩ : ∃ y, ys[i]? = some y := ⟨ys[i]'(by rw [← HN.out.2]; exact hlt2), List.getElem?_eq_getElem _⟩
   obtain ⟨g, cur, rfl, hg, hgi⟩ := HCe.out i y hy
   have hex := HEx.out i x y hx hy
   obtain ⟨hcm, hnd⟩ := HXs.out x (List.mem_of_getElem? hx)
   obtain ⟨qx, rfl⟩ := q_ hnd hex
   obtain ⟨zs, hz, h1, hz3, h2, h3, h4, h5, h6⟩ := HI.out.at'
   have e0 : wr.cell? ⟨g, i, none⟩ = some (ptr qx) := z_ (by rw [h1.block g (Array.getElem?_eq_some_iff.1 hg).1]; exact hg) hgi
   have e1 : wr.cell? ⟨w.heap.size, 0, none⟩ = some (ptr P) := z_ (i := 0) h2 rfl
   have e2 : wr.cell? ⟨w.heap.size + 1 + 1 + 1, 0, none⟩ = some (.slice (some ⟨w.heap.size + 1 + 1, 0, none⟩) n n) := z_ (i := 0) h5 rfl
   have e4 : wr.cell? ⟨w.heap.size + 1 + 1, i, none⟩ = some Value.nilFunc := z_ h4 (fill_at zs n i hz hlt2)
   have f4 : wr.frozen? ⟨w.heap.size + 1 + 1, i, none⟩ = false := by simp [World.frozen?, h4]
   have hz0 : w.heap.size < wr.heap.size := by omega
   have HB1 : Hid (Below w.heap.size w wr) := h1
   have HX : Hid (xs[i]? = some x) := hx
   have HC : Hid (∀ W, Below w.heap.size w W → Calls Tryz.prog 138 #[ptr P, ptr qx] W (CmP P x W)) := fun W hb => hcm S W P _ (zD hb hex)
   have hl9 : (i : Int) < (n : Int) := by omega
   clear hx hy hg hgi hex hcm hnd h1 h2 h3 h4 h5 h6 hz
   go_wp2_with fail
   go_region_held3 (fun w' => w'.cell? ⟨w.heap.size, 0, none⟩ = some (ptr P) ∧ w'.cell? ⟨w.heap.size + 1 + 1 + 1, 0, none⟩ = some (.slice (some ⟨w.heap.size + 1 + 1, 0, none⟩) n n))
    (first | (go_keep; done) | ((try dsimp only); refine ⟨?_, ?_⟩ <;> first | (go_keep; done) | (go_simp; done) | (simp [*]; done) | (rw [World.cell?_setCell_other (by intro e; injection e; omega)]; assumption)))
    (first | (go_at_call 138; refine (HC.out _ (HB1.out.drew)).mono ?_; rintro e w1 ⟨k1, cp1, rfl, hcl, hb1⟩; have hcc := fun b o h => hb1.cell (p := ⟨b, o, none⟩) h; have hff := fun b o h => hb1.frozen (p := ⟨b, o, none⟩) h; have t1 : w1.cell? ⟨w.heap.size, 0, none⟩ = some (ptr P) := (hcc _ _ (by simp; omega)).trans (by go_simp); have t2 : w1.cell? ⟨w.heap.size + 1 + 1 + 1, 0, none⟩ = some (.slice (some ⟨w.heap.size + 1 + 1, 0, none⟩) n n) := (hcc _ _ (by simp; omega)).trans (by go_simp); have t4 : w1.cell? ⟨w.heap.size + 1 + 1, i, none⟩ = some Value.nilFunc := (hcc _ _ (by simp; omega)).trans (by go_simp); have t5 : w1.frozen? ⟨w.heap.size + 1 + 1, i, none⟩ = false := (hff _ _ (by simp; omega)).trans (by go_simp); have HI2 : Hid (CdI w P q xs n (w1.setCell ⟨w.heap.size + 1 + 1, i, none⟩ (.func (.func k1) #[] cp1)) (i + 1)) := cd_next HI.out hlt2 HX.out (zu hb1) hcl; clear hcc hff hcl hb1))
   go_wp2
   exact ⟨⟨i + 1, by omega, by go_num, HI2⟩, by simp [intOf]; omega⟩
  ·have hin2 : i = n := by omega
   subst hin2
   have HE : Hid (G (.returned (.func (.func 229) #[] #[ptr w.heap.size, ptr (w.heap.size + 1), ptr (w.heap.size + 1 + 1 + 1)])) wr) := by
    show G _ _
    rw [← HG.out]
    exact cd_end HI.out HN.out.1 HQ.out
   go_wp2
   exact HE.out
theorem cm_call {a n0 : Int} {nm op : By} {l r : Tr} {xs : List Tr} (hxs : ∀ x ∈ xs, CmE x ∧ IsNd x) (h6 : xs.length ≤ 1000000) : CmE (nd 5 a n0 nm op l r (chain xs)) := by
 intro S w P v hx
 have HX : Hid (ExAt S w (nd 5 a n0 nm op l r (chain xs)) v) := hx
 obtain ⟨q, vl, vr, vg, ys, rfl, hq, -, -, -, -⟩ := qH hx
 have c0 := z_ (i := 0) hq rfl
 have hlt : q < w.heap.size := (Array.getElem?_eq_some_iff.1 hq).1
 have HC : Hid (∀ W, Below w.heap.size w W → Calls Tryz.prog 192 #[ptr P, ptr q] W (CmP P (nd 5 a n0 nm op l r (chain xs)) W)) := fun W hb => called_walk hxs h6 S W P _ (zD hb HX.out)
 clear hx hq
 go_enter Tryz.func138, Tryz.ntmps138
 go_wp2_with (go_at_call 192; fail)
 refine (HC.out _ (jo _ _ _)).mono ?_
 rintro e w1 ⟨k1, cp1, rfl, hcl, hb1⟩
 have HH : Hid (_ ∧ _) := ⟨hcl, hb1⟩
 clear hcl hb1
 go_wp2
 go_ret
 exact ⟨_, _, rfl, HH.out.1, (jo _ _ _).trans (HH.out.2.mono (by simp; omega))⟩
theorem qa {S : Nat → Prop} {w w' : World} (hb : Below w.heap.size w w') : Keeps S w w' := fun b cs t _ _ hk => by rw [hb.block b (Array.getElem?_eq_some_iff.1 hk).1]; exact hk
structure StM (S : Nat → Prop) (w : World) (b o : Nat) (c a : Int) (nm : By) (ix v th el : Tr) (vi vv : Option Addr) (vt ve : Value) : Prop where
 cells : ∃ cs, w.heap[b]? = some (.cells cs 147) ∧ cs[o]? = some (.int .i64 c) ∧ cs[o + 2]? = some (str nm) ∧ cs[o + 3]? = some (.pointer vi) ∧ cs[o + 4]? = some (.pointer vv) ∧ cs[o + 5]? = some vt ∧ cs[o + 6]? = some ve
 ix : ExAt S w ix (.pointer vi)
 v : ExAt S w v (.pointer vv)
 th : ∃ nt ts, RowS S w 147 7 vt nt ts ∧ StAt S w th ts
 el : ∃ ne es, RowS S w 147 7 ve ne es ∧ StAt S w el es
theorem StM.below {S : Nat → Prop} {w w' : World} {b o : Nat} {c a : Int} {nm : By} {ix v th el : Tr} {vi vv : Option Addr} {vt ve : Value} (h : StM S w b o c a nm ix v th el vi vv vt ve) (hb : Below w.heap.size w w') : StM S w' b o c a nm ix v th el vi vv vt ve := by
 obtain ⟨⟨cs, h1, h2⟩, h3, h4, ⟨nt, ts, h5, h6⟩, ⟨ne, es, h7, h8⟩⟩ := h
 have k := qa (S := S) hb
 exact ⟨⟨cs, by rw [hb.block b (Array.getElem?_eq_some_iff.1 h1).1]; exact h1, h2⟩, zD hb h3, zD hb h4, ⟨nt, ts, h5.kept k (by decide), StAt.kept k _ _ h6⟩, ⟨ne, es, h7.kept k (by decide), StAt.kept k _ _ h8⟩⟩
def CsP (P : Nat) (x : Tr) (w : World) (e : Ending) (w' : World) : Prop := ∃ k cap, e = .returned (.func (.func k) #[] cap) ∧ ClB w' P (cc x ce) [.func (.func k) #[] cap] ∧ Below w.heap.size w w'
def CmS (x : Tr) : Prop := ∀ (c a : Int) (nm : By) (ix v th el : Tr), x = st c a nm ix v th el → ∀ (S : Nat → Prop) (w : World) (P b o : Nat) (vi vv : Option Addr) (vt ve : Value), StM S w b o c a nm ix v th el vi vv vt ve → Calls Tryz.prog 86 #[ptr P, .pointer (some ⟨b, o, none⟩)] w (CsP P x w)
def BlP (P : Nat) (t : Tr) (w : World) (e : Ending) (w' : World) : Prop := ∃ cap, e = .returned (.func (.func 87) #[] cap) ∧ BlV w' P t (.func (.func 87) #[] cap) ∧ Below w.heap.size w w'
def CmB (t : Tr) : Prop := ∀ (S : Nat → Prop) (w : World) (P : Nat) (v : Value) (n : Nat) (cs : List Value), RowS S w 147 7 v n cs → StAt S w t cs → Calls Tryz.prog 53 #[ptr P, v] w (BlP P t w)
theorem z8 {md : Region.Mode} {ops : Array Oper} {i : Nat} {o : Oper} {listed : Array Bool} (hi : i ∈ Region.ready md ops listed) (ho : ops[i]? = some o) : listed.getD i true = false ∧ ∀ e ∈ o.after, Region.binds md e = true → listed.getD e.on false = true := by
 obtain ⟨h0, o', ho', hall⟩ := mem_ready.1 hi
 rw [ho] at ho'
 injection ho' with e
 subst e
 exact ⟨h0, hall⟩
structure ChI (W0 : World) (P : Nat) (v th el : Tr) (c1 c2 c3 a1 a2 a3 : Bool) (x13 x19 x25 x5 x6 x7 : Value) (w : World) : Prop where
 bel : Below W0.heap.size W0 w
 o2 : c2 = true → c1 = true
 o3 : c3 = true → c2 = true
 e1 : c1 = true → (∃ k cap, x13 = .func (.func k) #[] cap) ∧ ClE w P v x13
 e2 : c2 = true → BlV w P th x19
 e3 : c3 = true → BlV w P el x25
 b1 : a1 = true → ∃ b, x5 = ptr b ∧ W0.heap.size ≤ b ∧ w.heap[b]? = some (.cells #[.nilFunc] 245)
 b2 : a2 = true → ∃ b, x6 = ptr b ∧ W0.heap.size ≤ b ∧ w.heap[b]? = some (.cells #[.nilFunc] 67)
 b3 : a3 = true → ∃ b, x7 = ptr b ∧ W0.heap.size ≤ b ∧ w.heap[b]? = some (.cells #[.nilFunc] 67)
 ne : a2 = true → a3 = true → x6 ≠ x7
theorem zx {w w' : World} {b : Nat} {o : Obj} (hb : Below w.heap.size w w') (h : w.heap[b]? = some o) : w'.heap[b]? = some o := by
 rw [hb.block b (Array.getElem?_eq_some_iff.1 h).1]; exact h
theorem ChI.below {W0 : World} {P : Nat} {v th el : Tr} {c1 c2 c3 a1 a2 a3 : Bool} {x13 x19 x25 x5 x6 x7 : Value} {w w' : World} (h : ChI W0 P v th el c1 c2 c3 a1 a2 a3 x13 x19 x25 x5 x6 x7 w) (hb : Below w.heap.size w w') : ChI W0 P v th el c1 c2 c3 a1 a2 a3 x13 x19 x25 x5 x6 x7 w' := by
 refine ⟨h.bel.trans (hb.mono h.bel.size), h.o2, h.o3, fun e => ⟨(h.e1 e).1, (h.e1 e).2.below hb⟩, fun e => (h.e2 e).below hb, fun e => (h.e3 e).below hb, fun e => ?_, fun e => ?_, fun e => ?_, h.ne⟩
 ·obtain ⟨b, q1, q2, q3⟩ := h.b1 e; exact ⟨b, q1, q2, zx hb q3⟩
 ·obtain ⟨b, q1, q2, q3⟩ := h.b2 e; exact ⟨b, q1, q2, zx hb q3⟩
 ·obtain ⟨b, q1, q2, q3⟩ := h.b3 e; exact ⟨b, q1, q2, zx hb q3⟩
theorem ChI.call1 {W0 : World} {P : Nat} {v th el : Tr} {c1 c2 c3 a1 a2 a3 : Bool} {x13 x19 x25 x5 x6 x7 : Value} {w w' : World} (h : ChI W0 P v th el c1 c2 c3 a1 a2 a3 x13 x19 x25 x5 x6 x7 w) (hb : Below w.heap.size w w') {k : Nat} {cap : Array Value} (hc : ClE w' P v (.func (.func k) #[] cap)) : ChI W0 P v th el true c2 c3 a1 a2 a3 (.func (.func k) #[] cap) x19 x25 x5 x6 x7 w' :=
 let q := h.below hb
 ⟨q.bel, fun _ => rfl, q.o3, fun _ => ⟨⟨k, cap, rfl⟩, hc⟩, q.e2, q.e3, q.b1, q.b2, q.b3, q.ne⟩
theorem ChI.call2 {W0 : World} {P : Nat} {v th el : Tr} {c1 c2 c3 a1 a2 a3 : Bool} {x13 x19 x25 x5 x6 x7 : Value} {w w' : World} (h : ChI W0 P v th el c1 c2 c3 a1 a2 a3 x13 x19 x25 x5 x6 x7 w) (h1 : c1 = true) (hb : Below w.heap.size w w') {u : Value} (hc : BlV w' P th u) : ChI W0 P v th el c1 true c3 a1 a2 a3 x13 u x25 x5 x6 x7 w' :=
 let q := h.below hb
 ⟨q.bel, fun _ => h1, fun _ => rfl, q.e1, fun _ => hc, q.e3, q.b1, q.b2, q.b3, q.ne⟩
theorem ChI.call3 {W0 : World} {P : Nat} {v th el : Tr} {c1 c2 c3 a1 a2 a3 : Bool} {x13 x19 x25 x5 x6 x7 : Value} {w w' : World} (h : ChI W0 P v th el c1 c2 c3 a1 a2 a3 x13 x19 x25 x5 x6 x7 w) (h1 : c2 = true) (hb : Below w.heap.size w w') {u : Value} (hc : BlV w' P el u) : ChI W0 P v th el c1 c2 true a1 a2 a3 x13 x19 u x5 x6 x7 w' :=
 let q := h.below hb
 ⟨q.bel, q.o2, fun _ => h1, q.e1, q.e2, fun _ => hc, q.b1, q.b2, q.b3, q.ne⟩
theorem qm (w : World) (A : Obj) : Below w.heap.size w (w.alloc A) := (Below.refl _ _).alloc (Nat.le_refl _) A
theorem ChI.new1 {W0 : World} {P : Nat} {v th el : Tr} {c1 c2 c3 a1 a2 a3 : Bool} {x13 x19 x25 x5 x6 x7 : Value} {w : World} (h : ChI W0 P v th el c1 c2 c3 a1 a2 a3 x13 x19 x25 x5 x6 x7 w) : ChI W0 P v th el c1 c2 c3 true a2 a3 x13 x19 x25 (ptr w.heap.size) x6 x7 (w.alloc (.cells #[.nilFunc] 245)) :=
 let q := h.below (qm w (.cells #[.nilFunc] 245))
 ⟨q.bel, q.o2, q.o3, q.e1, q.e2, q.e3, fun _ => ⟨_, rfl, h.bel.size, heap_alloc_last _ _⟩, q.b2, q.b3, q.ne⟩
theorem ptr_lt {w : World} {b : Nat} {o : Obj} (h : w.heap[b]? = some o) : ptr b ≠ ptr w.heap.size := fun e => by
 have := (Array.getElem?_eq_some_iff.1 h).1
 injection e with e
 injection e with e
 injection e with e
 omega
theorem ChI.new2 {W0 : World} {P : Nat} {v th el : Tr} {c1 c2 c3 a1 a2 a3 : Bool} {x13 x19 x25 x5 x6 x7 : Value} {w : World} (h : ChI W0 P v th el c1 c2 c3 a1 a2 a3 x13 x19 x25 x5 x6 x7 w) : ChI W0 P v th el c1 c2 c3 a1 true a3 x13 x19 x25 x5 (ptr w.heap.size) x7 (w.alloc (.cells #[.nilFunc] 67)) :=
 let q := h.below (qm w (.cells #[.nilFunc] 67))
 ⟨q.bel, q.o2, q.o3, q.e1, q.e2, q.e3, q.b1, fun _ => ⟨_, rfl, h.bel.size, heap_alloc_last _ _⟩, q.b3, fun _ e => by obtain ⟨b, rfl, _, hb⟩ := h.b3 e; exact (ptr_lt hb).symm⟩
theorem ChI.new3 {W0 : World} {P : Nat} {v th el : Tr} {c1 c2 c3 a1 a2 a3 : Bool} {x13 x19 x25 x5 x6 x7 : Value} {w : World} (h : ChI W0 P v th el c1 c2 c3 a1 a2 a3 x13 x19 x25 x5 x6 x7 w) : ChI W0 P v th el c1 c2 c3 a1 a2 true x13 x19 x25 x5 x6 (ptr w.heap.size) (w.alloc (.cells #[.nilFunc] 67)) :=
 let q := h.below (qm w (.cells #[.nilFunc] 67))
 ⟨q.bel, q.o2, q.o3, q.e1, q.e2, q.e3, q.b1, q.b2, fun _ => ⟨_, rfl, h.bel.size, heap_alloc_last _ _⟩, fun e _ => by obtain ⟨b, rfl, _, hb⟩ := h.b2 e; exact ptr_lt hb⟩
theorem ChI.stored {W0 : World} {P : Nat} {v th el : Tr} {x13 x19 x25 : Value} {b5 b6 b7 : Nat} {w : World} (h : ChI W0 P v th el true true true true true true x13 x19 x25 (ptr b5) (ptr b6) (ptr b7) w) :
  let w3 := ((w.setCell ⟨b5, 0, none⟩ x13).setCell ⟨b6, 0, none⟩ x19).setCell ⟨b7, 0, none⟩ x25
  w3.heap[b5]? = some (.cells #[x13] 245) ∧ w3.heap[b6]? = some (.cells #[x19] 67) ∧ w3.heap[b7]? = some (.cells #[x25] 67) ∧ ClE w3 P v x13 ∧ BlV w3 P th x19 ∧ BlV w3 P el x25 ∧ Below W0.heap.size W0 w3 := by
 intro w3
 have pj : ∀ {a b : Nat}, ptr a = ptr b → a = b := fun e => by injection e with e; injection e with e; injection e
 obtain ⟨_, e5, l5, h5⟩ := h.b1 rfl
 obtain rfl := pj e5
 obtain ⟨_, e6, l6, h6⟩ := h.b2 rfl
 obtain rfl := pj e6
 obtain ⟨_, e7, l7, h7⟩ := h.b3 rfl
 obtain rfl := pj e7
 have n56 : b5 ≠ b6 := fun e => by subst e; rw [h5] at h6; injection h6 with h6; injection h6 with _ h6; cases h6
 have n57 : b5 ≠ b7 := fun e => by subst e; rw [h5] at h7; injection h7 with h7; injection h7 with _ h7; cases h7
 have n67 : b6 ≠ b7 := fun e => h.ne rfl rfl (by rw [e])
 have s1 : Ks w (w.setCell ⟨b5, 0, none⟩ x13) := Ks.set h5
 have g6 : (w.setCell ⟨b5, 0, none⟩ x13).heap[b6]? = some (.cells #[.nilFunc] 67) := by rw [heap_setCell_other _ _ _ _ n56.symm]; exact h6
 have s2 : Ks (w.setCell ⟨b5, 0, none⟩ x13) ((w.setCell ⟨b5, 0, none⟩ x13).setCell ⟨b6, 0, none⟩ x19) := Ks.set g6
 have g7 : ((w.setCell ⟨b5, 0, none⟩ x13).setCell ⟨b6, 0, none⟩ x19).heap[b7]? = some (.cells #[.nilFunc] 67) := by rw [heap_setCell_other _ _ _ _ n67.symm, heap_setCell_other _ _ _ _ n57.symm]; exact h7
 have s3 : Ks ((w.setCell ⟨b5, 0, none⟩ x13).setCell ⟨b6, 0, none⟩ x19) w3 := Ks.set g7
 have g5 : (w.setCell ⟨b5, 0, none⟩ x13).heap[b5]? = some (.cells #[x13] 245) := heap_setCell_same _ _ _ _ _ _ h5
 have g6' : ((w.setCell ⟨b5, 0, none⟩ x13).setCell ⟨b6, 0, none⟩ x19).heap[b6]? = some (.cells #[x19] 67) := heap_setCell_same _ _ _ _ _ _ g6
 refine ⟨?_, ?_, heap_setCell_same _ _ _ _ _ _ g7, ClE.kept s3 _ _ (ClE.kept s2 _ _ (ClE.kept s1 _ _ (h.e1 rfl).2)), BlV.kept s3 (BlV.kept s2 (BlV.kept s1 (h.e2 rfl))), BlV.kept s3 (BlV.kept s2 (BlV.kept s1 (h.e3 rfl))), ?_⟩
 ·show (World.setCell _ _ _).heap[b5]? = _
  rw [heap_setCell_other _ _ _ _ n57, heap_setCell_other _ _ _ _ n56]; exact g5
 ·show (World.setCell _ _ _).heap[b6]? = _
  rw [heap_setCell_other _ _ _ _ n67]; exact g6'
 ·exact ((h.bel.setCell (p := ⟨b5, 0, none⟩) l5 _).setCell (p := ⟨b6, 0, none⟩) l6 _).setCell (p := ⟨b7, 0, none⟩) l7 _
end Go.Proofs.YtnfhpdbbfejioaaGreatDoor
