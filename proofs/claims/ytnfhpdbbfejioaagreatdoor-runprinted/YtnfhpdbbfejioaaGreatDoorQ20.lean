/- GF -/
import Derived.Test.YtnfhpdbbfejioaaGreatDoorQ19
namespace Go.Proofs.YtnfhpdbbfejioaaGreatDoor
set_option linter.unusedVariables false
set_option linter.unusedSimpArgs false
set_option maxRecDepth 100000
set_option maxHeartbeats 4000000
open Go Go.RowKit
theorem cm_bin {a n : Int} {nm op : By} {l r g : Tr} (hl : CmE l) (hnl : IsNd l) (hr : CmE r) (hnr : IsNd r) : CmE (nd 3 a n nm op l r g) := by
 intro S w P v hx
 have HX : Hid (ExAt S w (nd 3 a n nm op l r g) v) := hx
 obtain ⟨q, vl, vr, vg, ys, rfl, hq, -, -, -, -⟩ := qH hx
 have c0 := z_ (i := 0) hq rfl
 have hlt : q < w.heap.size := (Array.getElem?_eq_some_iff.1 hq).1
 have HC : Hid (∀ W, Below w.heap.size w W → Calls Tryz.prog 190 #[ptr P, ptr q] W (CmP P (nd 3 a n nm op l r g) W)) := fun W hb => two_walk hl hnl hr hnr S W P _ (zD hb HX.out)
 clear hx hq
 go_enter Tryz.func138, Tryz.ntmps138
 go_wp2_with (go_at_call 190; fail)
 refine (HC.out _ (jo _ _ _)).mono ?_
 rintro e w1 ⟨k1, cp1, rfl, hcl, hb1⟩
 have HH : Hid (_ ∧ _) := ⟨hcl, hb1⟩
 clear hcl hb1
 go_wp2
 go_ret
 exact ⟨_, _, rfl, HH.out.1, (jo _ _ _).trans (HH.out.2.mono (by simp; omega))⟩
theorem cm_item {a n : Int} {nm op : By} {l r g : Tr} (hl : CmE l) (hnl : IsNd l) (hr : CmE r) (hnr : IsNd r) : CmE (nd 8 a n nm op l r g) := by
 intro S w P v hx
 obtain ⟨q, vl, vr, vg, ys, rfl, hq, hxl, hxr, -, -⟩ := qH hx
 obtain ⟨ql, rfl⟩ := q_ hnl hxl
 obtain ⟨qr, rfl⟩ := q_ hnr hxr
 have hmf := mkf
 have c0 := z_ (i := 0) hq rfl
 have HQ : Hid (w.heap[q]? = some (.cells #[.int .i64 8, .int .i64 a, .int .i64 n, str nm, str op, ptr ql, ptr qr, vg] 252)) := hq
 have hlt : q < w.heap.size := (Array.getElem?_eq_some_iff.1 hq).1
 have HC1 : Hid (∀ b, b = ql → ∀ W, Below w.heap.size w W → Calls Tryz.prog 138 #[ptr P, ptr b] W fun e w' => CmP P l W e w' ∧ Below w.heap.size w w') := fun b e W hb => by subst e; exact cm_w hb (hl S W P _ (zD hb hxl))
 have HC2 : Hid (∀ b, b = qr → ∀ W, Below w.heap.size w W → Calls Tryz.prog 138 #[ptr P, ptr b] W fun e w' => CmP P r W e w' ∧ Below w.heap.size w w') := fun b e W hb => by subst e; exact cm_w hb (hr S W P _ (zD hb hxr))
 clear hx hq hxl hxr
 go_enter Tryz.func138, Tryz.ntmps138
 go_wp2_with fail
 obtain ⟨W0, hW0⟩ : ∃ W0, W0 = (w.alloc (.cells #[ptr P] 57)).alloc (.cells #[ptr q] 145) := ⟨_, rfl⟩
 have HB0 : Hid (Below w.heap.size w W0) := by rw [hW0]; exact jo _ _ _
 have hS0 : W0.heap.size = w.heap.size + 2 := by rw [hW0]; simp
 have p1 : W0.cell? ⟨w.heap.size, 0, none⟩ = some (ptr P) := by rw [hW0]; exact z_ (i := 0) (al1 _ _ _) rfl
 have p2 : W0.cell? ⟨w.heap.size + 1, 0, none⟩ = some (ptr q) := by rw [hW0]; exact z_ (i := 0) (al2 _ _ _) rfl
 have p3 : W0.cell? ⟨q, 5, none⟩ = some (ptr ql) := by rw [hW0]; exact z_ (i := 5) (zc (zc HQ.out _) _) rfl
 have p4 : W0.cell? ⟨q, 6, none⟩ = some (ptr qr) := by rw [hW0]; exact z_ (i := 6) (zc (zc HQ.out _) _) rfl
 have HS0 : Hid (W0.heap.size = w.heap.size + 2) := hS0
 have hz0 : w.heap.size < W0.heap.size := by omega
 have hz1 : w.heap.size + 1 < W0.heap.size := by omega
 have hq0 : q < W0.heap.size := by omega
 have m1 : w.heap.size ≠ W0.heap.size := by omega
 have m2 : w.heap.size + 1 ≠ W0.heap.size := by omega
 have m3 : q ≠ W0.heap.size := by omega
 rw [← hW0]
 clear hW0 hS0 c0
 go_region_held3 (fun w' => w'.cell? ⟨w.heap.size, 0, none⟩ = some (ptr P) ∧ w'.cell? ⟨w.heap.size + 1, 0, none⟩ = some (ptr q) ∧ w'.cell? ⟨q, 5, none⟩ = some (ptr ql) ∧ w'.cell? ⟨q, 6, none⟩ = some (ptr qr))
  (first | go_keep | (refine ⟨?_, ?_, ?_, ?_⟩ <;> first | (go_simp; done) | (simp [*]; done) | ((repeat rw [World.cell?_setCell_other (by intro e; injection e; omega)]); assumption)))
  (first
   |(go_at_call 138; refine (HC1.out _ (by exact rfl) _ (by repeat first | exact HB0.out | refine Below.drew ?_ | refine Below.alloc ?_ (by have := HB0.out.size; first | omega | (simp; done) | (simp; omega)) _)).mono ?_; rintro e w1 ⟨⟨k1, cp1, rfl, hcl1, hb1⟩, hw1⟩; have HW1 : Hid (Below w.heap.size w w1) := hw1; clear hw1; have hcc1 := fun b o h => hb1.cell (p := ⟨b, o, none⟩) h; have hff1 := fun b o h => hb1.frozen (p := ⟨b, o, none⟩) h; have t10 : w1.cell? ⟨w.heap.size, 0, none⟩ = some (ptr P) := (hcc1 _ _ (by first | omega | (simp; done) | (simp; omega))).trans (by go_simp); have t11 : w1.cell? ⟨w.heap.size + 1, 0, none⟩ = some (ptr q) := (hcc1 _ _ (by first | omega | (simp; done) | (simp; omega))).trans (by go_simp); have t12 : w1.cell? ⟨q, 5, none⟩ = some (ptr ql) := (hcc1 _ _ (by first | omega | (simp; done) | (simp; omega))).trans (by go_simp); have t13 : w1.cell? ⟨q, 6, none⟩ = some (ptr qr) := (hcc1 _ _ (by first | omega | (simp; done) | (simp; omega))).trans (by go_simp); have s1 := hb1.size; (try simp at s1); have zz10 : w.heap.size < w1.heap.size := (by omega); have zz12 : w.heap.size + 1 < w1.heap.size := (by omega); have zz11 : q < w1.heap.size := (by omega); (try have v1 : W0.heap.size < w1.heap.size := (by omega)); (try have v2 : W0.heap.size + 1 < w1.heap.size := (by omega)))
   |(go_at_call 138; refine (HC2.out _ (by exact rfl) _ (by repeat first | exact HW1.out | exact HB0.out | refine Below.drew ?_ | refine Below.alloc ?_ (by have := HB0.out.size; first | omega | (simp; done) | (simp; omega)) _)).mono ?_; rintro e w2 ⟨⟨k2, cp2, rfl, hcl2, hb2⟩, hw2⟩; have HW2 : Hid (Below w.heap.size w w2) := hw2; clear hw2; have hcc2 := fun b o h => hb2.cell (p := ⟨b, o, none⟩) h; have hff2 := fun b o h => hb2.frozen (p := ⟨b, o, none⟩) h; have t20 : w2.cell? ⟨w.heap.size, 0, none⟩ = some (ptr P) := (hcc2 _ _ (by first | omega | (simp; done) | (simp; omega))).trans (by go_simp); have t21 : w2.cell? ⟨w.heap.size + 1, 0, none⟩ = some (ptr q) := (hcc2 _ _ (by first | omega | (simp; done) | (simp; omega))).trans (by go_simp); have t22 : w2.cell? ⟨q, 5, none⟩ = some (ptr ql) := (hcc2 _ _ (by first | omega | (simp; done) | (simp; omega))).trans (by go_simp); have t23 : w2.cell? ⟨q, 6, none⟩ = some (ptr qr) := (hcc2 _ _ (by first | omega | (simp; done) | (simp; omega))).trans (by go_simp); have s2 := hb2.size; (try simp at s2); have zz20 : w.heap.size < w2.heap.size := (by omega); have zz22 : w.heap.size + 1 < w2.heap.size := (by omega); have zz21 : q < w2.heap.size := (by omega); (try have v3 : W0.heap.size < w2.heap.size := (by omega)); (try have v4 : W0.heap.size + 1 < w2.heap.size := (by omega)); (try have v5 : w1.heap.size < w2.heap.size := (by omega)); (try have v6 : w1.heap.size + 1 < w2.heap.size := (by omega))))
 all_goals
  have e1 := undrew' hb1
  have HH : Hid (Below W0.heap.size W0 w2 ∧ ClE w1 P l (.func (.func k1) #[] cp1) ∧ ClE w2 P r (.func (.func k2) #[] cp2)) := by
   refine ⟨?_, hcl1, hcl2⟩
   repeat' (first | exact Below.refl _ _ | refine Below.alloc ?_ (by first | omega | (simp; done) | (simp; omega)) _ | refine Below.trans ?_ (hb2.mono (by first | omega | (simp; done) | (simp; omega))) | refine Below.trans ?_ (e1.mono (by first | omega | (simp; done) | (simp; omega))))
  have He1 : Hid _ := e1
  have He2 : Hid _ := hb2
  clear hcc1 hff1 hcc2 hff2 t10 t11 t12 t13 t20 t21 t22 t23 p1 p2 p3 p4 hcl1 hcl2 e1 hb1 hb2 HC1 HC2
  go_wp2
  go_ret
  have e1 := He1.out
  have hb2 := He2.out
  refine ⟨_, _, rfl, by rw [ClE]; (refine .inr (.inr (.inr (.inr (.inr (.inr (.inr (.inl ⟨rfl, _, _, _, _, rfl, ?_, ?_, ClE.kept (w := w1) ?_ _ _ HH.out.2.1, ClE.kept (w := w2) ?_ _ _ HH.out.2.2⟩))))))) <;> repeat' (first | exact Ks.refl _ | refine Ks.alloc ?_ _ | refine Ks.put (t := 245) ?_ ?_ | refine Ks.call ?_ hb2 | exact heap_alloc_last _ _ | exact al2 _ _ _ | exact last_set _ _ _ _ | refine zc ?_ _ | refine set_one (x := .nilFunc) ?_ | refine set_far ?_ (by omega) | refine blk_of hb2 ?_ | refine blk_of e1 ?_)), ?_⟩
  refine HB0.out.trans (Below.mono (B := W0.heap.size) ?_ HB0.out.size)
  repeat' (first | exact HH.out.1 | refine Below.alloc ?_ (by first | omega | (simp; done) | (simp; omega)) _ | refine bel_set ?_ (by omega))
end Go.Proofs.YtnfhpdbbfejioaaGreatDoor
