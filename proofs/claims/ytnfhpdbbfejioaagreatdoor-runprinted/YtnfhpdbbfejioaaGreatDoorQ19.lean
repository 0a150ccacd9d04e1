/- GE -/
import Derived.Test.YtnfhpdbbfejioaaGreatDoorQ18
namespace Go.Proofs.YtnfhpdbbfejioaaGreatDoor
set_option linter.unusedVariables false
set_option linter.unusedSimpArgs false
set_option maxRecDepth 100000
set_option maxHeartbeats 4000000
open Go Go.RowKit
theorem set_one {w : World} {b : Nat} {x v : Value} {t : TypeId} (h : w.heap[b]? = some (.cells #[x] t)) : (w.setCell ⟨b, 0, none⟩ v).heap[b]? = some (.cells #[v] t) := heap_setCell_same _ _ _ _ _ _ h
theorem set_far {w : World} {b b' : Nat} {v : Value} {o : Obj} (h : w.heap[b]? = some o) (hn : b ≠ b') : (w.setCell ⟨b', 0, none⟩ v).heap[b]? = some o := by
 rw [heap_setCell_other _ _ _ _ hn]; exact h
theorem blk_of {w w' : World} {b : Nat} {o : Obj} (hb : Below w.heap.size w w') (h : w.heap[b]? = some o) : w'.heap[b]? = some o := by
 rw [hb.block b (Array.getElem?_eq_some_iff.1 h).1]; exact h
theorem last_set (w : World) (a : Addr) (v : Value) (A : Obj) : ((w.setCell a v).alloc A).heap[w.heap.size]? = some A := by
 have := heap_alloc_last (w.setCell a v) A
 simpa using this
theorem bel_set {B : Nat} {a w : World} {b : Nat} {v : Value} (h : Below B a w) (hb : B ≤ b) : Below B a (w.setCell ⟨b, 0, none⟩ v) := h.setCell (p := ⟨b, 0, none⟩) hb v
theorem Ks.refl (w : World) : Ks w w := fun _ _ _ _ _ h => h
theorem Ks.trans {a b c : World} (h : Ks a b) (g : Ks b c) : Ks a c := fun k cs t h1 h2 h3 => g k cs t h1 h2 (h k cs t h1 h2 h3)
theorem Ks.alloc {a b : World} (h : Ks a b) (A : Obj) : Ks a (b.alloc A) := h.trans (Ks.below ((Below.refl _ _).alloc (Nat.le_refl _) A))
theorem Ks.call {a b c : World} (h : Ks a b) (hb : Below b.heap.size b c) : Ks a c := h.trans (Ks.below hb)
theorem Ks.drew {a b : World} (h : Ks a b) : Ks a b.drew := h
theorem Ks.put {a b : World} {k : Nat} {t : TypeId} {v : Value} (h : Ks a b) (hb : b.heap[k]? = some (.cells #[.nilFunc] t)) (ht : t = 245 ∨ t = 67 := by decide) : Ks a (b.setCell ⟨k, 0, none⟩ v) := h.trans (Ks.set hb ht)
theorem undrew' {a b : World} (h : Below a.drew.heap.size a.drew b) : Below a.heap.size a b := ⟨h.os, h.tape, h.output, h.size, h.block⟩
theorem cm_w {w W : World} {P : Nat} {t : Tr} {f : Nat} {v : Array Value} (hb : Below w.heap.size w W) (h : Calls Tryz.prog f v W (CmP P t W)) : Calls Tryz.prog f v W fun e w' => CmP P t W e w' ∧ Below w.heap.size w w' := h.mono fun e w' hp => ⟨hp, by obtain ⟨_, _, _, _, hb1⟩ := hp; exact hb.trans (hb1.mono hb.size)⟩
theorem two_walk {a n : Int} {nm op : By} {l r g : Tr} (hl : CmE l) (hnl : IsNd l) (hr : CmE r) (hnr : IsNd r) (S : Nat → Prop) (w : World) (P : Nat) (v : Value) (hx : ExAt S w (nd 3 a n nm op l r g) v) : Calls Tryz.prog 190 #[ptr P, v] w (CmP P (nd 3 a n nm op l r g) w) := by
 obtain ⟨q, vl, vr, vg, ys, rfl, hq, hxl, hxr, -, -⟩ := qH hx
 obtain ⟨ql, rfl⟩ := q_ hnl hxl
 obtain ⟨qr, rfl⟩ := q_ hnr hxr
 have hmf := mkf
 obtain ⟨y, hy, hyt⟩ := zt op
 rw [hy] at hq
 have HQ : Hid (w.heap[q]? = some (.cells #[.int .i64 3, .int .i64 a, .int .i64 n, str nm, .string y, ptr ql, ptr qr, vg] 252)) := hq
 have hlt : q < w.heap.size := (Array.getElem?_eq_some_iff.1 hq).1
 have HC1 : Hid (∀ b, b = ql → ∀ W, Below w.heap.size w W → Calls Tryz.prog 138 #[ptr P, ptr b] W fun e w' => CmP P l W e w' ∧ Below w.heap.size w w') := fun b e W hb => by subst e; exact cm_w hb (hl S W P _ (zD hb hxl))
 have HC2 : Hid (∀ b, b = qr → ∀ W, Below w.heap.size w W → Calls Tryz.prog 138 #[ptr P, ptr b] W fun e w' => CmP P r W e w' ∧ Below w.heap.size w w') := fun b e W hb => by subst e; exact cm_w hb (hr S W P _ (zD hb hxr))
 have HY : Hid (str op = .string y ∧ y.data.toList = op) := ⟨hy, hyt⟩
 clear hx hq hxl hxr hy hyt
 go_enter Tryz.func190, Tryz.ntmps190
 go_upto_region 1 with fail
 obtain ⟨W0, hW0⟩ : ∃ W0, W0 = w.alloc (.cells #[ptr q] 145) := ⟨_, rfl⟩
 have HB0 : Hid (Below w.heap.size w W0) := by rw [hW0]; exact (Below.refl _ _).alloc (Nat.le_refl _) _
 have hS0 : W0.heap.size = w.heap.size + 1 := by rw [hW0]; simp
 have HX0 : Hid (W0.heap[w.heap.size]? = some (.cells #[ptr q] 145)) := by rw [hW0]; exact heap_alloc_last _ _
 have p2 : W0.cell? ⟨w.heap.size, 0, none⟩ = some (ptr q) := z_ (i := 0) HX0.out rfl
 have HQ0 : Hid (W0.heap[q]? = some (.cells #[.int .i64 3, .int .i64 a, .int .i64 n, str nm, .string y, ptr ql, ptr qr, vg] 252)) := by rw [hW0]; exact zc HQ.out _
 have p3 : W0.cell? ⟨q, 5, none⟩ = some (ptr ql) := z_ (i := 5) HQ0.out rfl
 have p4 : W0.cell? ⟨q, 6, none⟩ = some (ptr qr) := z_ (i := 6) HQ0.out rfl
 have HS0 : Hid (W0.heap.size = w.heap.size + 1) := hS0
 have hz0 : w.heap.size < W0.heap.size := by omega
 have hq0 : q < W0.heap.size := by omega
 have m1 : w.heap.size ≠ W0.heap.size := by omega
 have m3 : q ≠ W0.heap.size := by omega
 rw [← hW0]
 clear hW0 hS0
 go_cut [5, 6] (fun v5 v6 wx => ∃ b5 b6 k1 cp1 k2 cp2, v5 = ptr b5 ∧ v6 = ptr b6 ∧ Hid (wx.heap[b5]? = some (.cells #[.func (.func k1) #[] cp1] 245) ∧ wx.heap[b6]? = some (.cells #[.func (.func k2) #[] cp2] 245) ∧ ClE wx P l (.func (.func k1) #[] cp1) ∧ ClE wx P r (.func (.func k2) #[] cp2) ∧ Below W0.heap.size W0 wx))
 case first =>
  go_region_held3 (fun w' => w'.cell? ⟨w.heap.size, 0, none⟩ = some (ptr q) ∧ w'.cell? ⟨q, 5, none⟩ = some (ptr ql) ∧ w'.cell? ⟨q, 6, none⟩ = some (ptr qr))
  (first | go_keep | (refine ⟨?_, ?_, ?_⟩ <;> first | (go_simp; done) | (simp [*]; done) | ((repeat rw [World.cell?_setCell_other (by intro e; injection e; omega)]); assumption)))
  (first
   |(go_at_call 138; refine (HC1.out _ (by exact rfl) _ (by repeat first | exact HB0.out | refine Below.drew ?_ | refine Below.alloc ?_ (by have := HB0.out.size; first | omega | (simp; done) | (simp; omega)) _)).mono ?_; rintro e w1 ⟨⟨k1, cp1, rfl, hcl1, hb1⟩, hw1⟩; have HW1 : Hid (Below w.heap.size w w1) := hw1; clear hw1; have hcc1 := fun b o h => hb1.cell (p := ⟨b, o, none⟩) h; have hff1 := fun b o h => hb1.frozen (p := ⟨b, o, none⟩) h; have t10 : w1.cell? ⟨w.heap.size, 0, none⟩ = some (ptr q) := (hcc1 _ _ (by first | omega | (simp; done) | (simp; omega))).trans (by go_simp); have t11 : w1.cell? ⟨q, 5, none⟩ = some (ptr ql) := (hcc1 _ _ (by first | omega | (simp; done) | (simp; omega))).trans (by go_simp); have t12 : w1.cell? ⟨q, 6, none⟩ = some (ptr qr) := (hcc1 _ _ (by first | omega | (simp; done) | (simp; omega))).trans (by go_simp); have s1 := hb1.size; (try simp at s1); have zz10 : w.heap.size < w1.heap.size := (by omega); have zz11 : q < w1.heap.size := (by omega); (try have v1 : W0.heap.size < w1.heap.size := (by omega)); (try have v2 : W0.heap.size + 1 < w1.heap.size := (by omega)))
   |(go_at_call 138; refine (HC2.out _ (by exact rfl) _ (by repeat first | exact HW1.out | exact HB0.out | refine Below.drew ?_ | refine Below.alloc ?_ (by have := HB0.out.size; first | omega | (simp; done) | (simp; omega)) _)).mono ?_; rintro e w2 ⟨⟨k2, cp2, rfl, hcl2, hb2⟩, hw2⟩; have HW2 : Hid (Below w.heap.size w w2) := hw2; clear hw2; have hcc2 := fun b o h => hb2.cell (p := ⟨b, o, none⟩) h; have hff2 := fun b o h => hb2.frozen (p := ⟨b, o, none⟩) h; have t20 : w2.cell? ⟨w.heap.size, 0, none⟩ = some (ptr q) := (hcc2 _ _ (by first | omega | (simp; done) | (simp; omega))).trans (by go_simp); have t21 : w2.cell? ⟨q, 5, none⟩ = some (ptr ql) := (hcc2 _ _ (by first | omega | (simp; done) | (simp; omega))).trans (by go_simp); have t22 : w2.cell? ⟨q, 6, none⟩ = some (ptr qr) := (hcc2 _ _ (by first | omega | (simp; done) | (simp; omega))).trans (by go_simp); have s2 := hb2.size; (try simp at s2); have zz20 : w.heap.size < w2.heap.size := (by omega); have zz21 : q < w2.heap.size := (by omega); (try have v3 : W0.heap.size < w2.heap.size := (by omega)); (try have v4 : W0.heap.size + 1 < w2.heap.size := (by omega)); (try have v5 : w1.heap.size < w2.heap.size := (by omega)); (try have v6 : w1.heap.size + 1 < w2.heap.size := (by omega))))
  all_goals
  go_wp2_with fail
  go_meet
  ·refine ⟨_, _, k1, cp1, k2, cp2, rfl, rfl, ?_⟩
   have e1 := undrew' hb1
   clear hcc1 hff1 hcc2 hff2 t10 t11 t12 t20 t21 t22 p2 p3 p4 HC1 HC2 HY HQ HQ0 HX0 HB0 hmf HW1 HW2
   refine ⟨?_, ?_, ClE.kept (w := w1) ?_ _ _ hcl1, ClE.kept (w := w2) ?_ _ _ hcl2, ?_⟩
   ·repeat' (first | exact heap_alloc_last _ _ | exact al2 _ _ _ | exact last_set _ _ _ _ | refine zc ?_ _ | refine set_one (x := .nilFunc) ?_ | refine set_far ?_ (by omega) | refine blk_of hb2 ?_ | refine blk_of e1 ?_)
   ·repeat' (first | exact heap_alloc_last _ _ | exact al2 _ _ _ | exact last_set _ _ _ _ | refine zc ?_ _ | refine set_one (x := .nilFunc) ?_ | refine set_far ?_ (by omega) | refine blk_of hb2 ?_ | refine blk_of e1 ?_)
   ·repeat' (first | exact Ks.refl _ | refine Ks.alloc ?_ _ | refine Ks.put (t := 245) ?_ ?_ | refine Ks.call ?_ hb2 | exact heap_alloc_last _ _ | exact al2 _ _ _ | exact last_set _ _ _ _ | refine zc ?_ _ | refine set_one (x := .nilFunc) ?_ | refine set_far ?_ (by omega) | refine blk_of hb2 ?_ | refine blk_of e1 ?_)
   ·repeat' (first | exact Ks.refl _ | refine Ks.alloc ?_ _ | refine Ks.put (t := 245) ?_ ?_ | exact heap_alloc_last _ _ | exact al2 _ _ _ | exact last_set _ _ _ _ | refine zc ?_ _ | refine set_one (x := .nilFunc) ?_ | refine set_far ?_ (by omega) | refine blk_of hb2 ?_ | refine blk_of e1 ?_)
   ·repeat' (first | exact Below.refl _ _ | refine Below.alloc ?_ (by first | omega | (simp; done) | (simp; omega)) _ | refine bel_set ?_ (by omega) | refine Below.trans ?_ (hb2.mono (by first | omega | (simp; done) | (simp; omega))) | refine Below.trans ?_ (e1.mono (by first | omega | (simp; done) | (simp; omega))))
 case rest =>
  obtain ⟨b5, b6, k1, cp1, k2, cp2, rfl, rfl, HF⟩ := hcut
  have HX : Hid (wc.heap[w.heap.size]? = some (.cells #[ptr q] 145)) := blk_of HF.out.2.2.2.2 HX0.out
  have HQ2 : Hid (wc.heap[q]? = some (.cells #[.int .i64 3, .int .i64 a, .int .i64 n, str nm, .string y, ptr ql, ptr qr, vg] 252)) := blk_of HF.out.2.2.2.2 HQ0.out
  have c1 := z_ (i := 0) HX.out rfl
  have c2 := z_ (i := 4) HQ2.out rfl
  have HN : Hid (NodeC wc w.heap.size 3 a n nm op) := ⟨q, ptr ql, ptr qr, vg, HX.out, by rw [HY.out.1]; exact HQ2.out⟩
  have HBw : Hid (Below w.heap.size w wc) := HB0.out.trans (HF.out.2.2.2.2.mono HB0.out.size)
  clear p2 p3 p4 hz0 hq0 m1 m3
  by_cases ho : op = [38, 38]
  ·have hyb := tl_yes HY.out.2 ho
   go_wp2
   go_ret
   exact ⟨_, _, rfl, by rw [ClE]; exact .inr (.inr (.inl ⟨rfl, _, _, _, _, _, by rw [if_pos ho], HN.out, HF.out.1, HF.out.2.1, HF.out.2.2.1, HF.out.2.2.2.1⟩)), HBw.out⟩
  ·have hyb := tl_no HY.out.2 ho
   by_cases ho2 : op = [124, 124]
   ·have hyb2 := tl_yes HY.out.2 ho2
    go_wp2
    go_ret
    exact ⟨_, _, rfl, by rw [ClE]; exact .inr (.inr (.inl ⟨rfl, _, _, _, _, _, by rw [if_neg ho, if_pos ho2], HN.out, HF.out.1, HF.out.2.1, HF.out.2.2.1, HF.out.2.2.2.1⟩)), HBw.out⟩
   ·have hyb2 := tl_no HY.out.2 ho2
    go_wp2
    go_ret
    exact ⟨_, _, rfl, by rw [ClE]; exact .inr (.inr (.inl ⟨rfl, _, _, _, _, _, by rw [if_neg ho, if_neg ho2], HN.out, HF.out.1, HF.out.2.1, HF.out.2.2.1, HF.out.2.2.2.1⟩)), HBw.out⟩
end Go.Proofs.YtnfhpdbbfejioaaGreatDoor
