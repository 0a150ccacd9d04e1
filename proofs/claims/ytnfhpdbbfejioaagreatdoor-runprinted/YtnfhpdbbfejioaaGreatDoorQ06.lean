/- UC UD -/
import Derived.Test.YtnfhpdbbfejioaaGreatDoorQ05
namespace Go.Proofs.YtnfhpdbbfejioaaGreatDoor
set_option linter.unusedVariables false
set_option linter.unusedSimpArgs false
set_option maxRecDepth 100000
set_option maxHeartbeats 4000000
open Go Go.RowKit
def NmPost (w0 w : World) (P T q : Nat) (r : R Tr) (e : Ending) (w' : World) : Prop :=
 (∃ t l' cs o' c', r = .ok (t, l') ∧ e = .returned (.tuple #[]) ∧ w'.heap[q]? = some (.cells cs 147) ∧ StAt (Fr w.heap.size) w' (cc t ce) cs.toList ∧ PS w' P T o' c' l' ∧ Gr P w0 w') ∨ (∃ k p, r = .error (k, p) ∧ zH k p e w' ∧ Gr P w0 w')
theorem call_new {S : Nat → Prop} {w : World} {B : Nat} {p : Int} {m : By} {x : ByteArray} {g : Tr} {vg : Value} {ys : List Value} (hx : str m = .string x) (hs : S w.heap.size) (ho : w.ownsRow B 145 1 vg ys.length ys) (hS : ∀ i, vg.ownBlock = some i → S i) (hg : ExAt S w g (.tuple ys.toArray)) : ExAt S (w.alloc (.cells #[.int .i64 5, .int .i64 p, .int .i64 0, .string x, .string ⟨#[]⟩, .pointer none, .pointer none, vg] 252)) (nd 5 p 0 m [] .nil .nil g) (.pointer (some ⟨w.heap.size, 0, none⟩)) := by
 refine node_at2 hs (by rw [hx]; exact heap_alloc_last _ _) (qo _ _) (qo _ _) (own_mono (ho.alloc _) (Nat.zero_le _)) hS (ex_alloc hg _)
theorem at_of {w0 W : World} {P T o c d : Nat} {l : List Tok} (he : Env w0) (hg : Gr P w0 W) (hf : 14 ≤ P) (hp : PS W P T o c l) (hl : Ends l) (hd : d + l.length ≤ 100000) : At W P T o c d l := ⟨he.gr hg hf, hp, hl, hf, hd⟩
theorem named_walk (a d : Nat) (w0 w : World) (P T q o c : Nat) (l : List Tok) (h : At w P T o c d l) (he0 : Env w0) (hg0 : Gr P w0 w) (hq : w0.heap.size ≤ q) (hPq : P < q) (hTq : T < q)
  (hX : w.heap[q]? = some (.cells #[.int .i64 0, .int .i64 (a : Int), .string ⟨#[]⟩, .pointer none, .pointer none, .slice none 0 0, .slice none 0 0] 147)) :
  Calls Tryz.prog 205 #[.pointer (some ⟨P, 0, none⟩), .pointer (some ⟨q, 0, none⟩)] w (NmPost w0 w P T q (zQ a l)) := by
 obtain ⟨y, hy, hyt⟩ := zt (hd l).t
 have HA : Hid (At w P T o c d l) := h
 have HG : Hid (Gr P w0 w) := hg0
 have HE0 : Hid (Env w0) := he0
 have HQ : Hid (w0.heap.size ≤ q ∧ P < q ∧ T < q ∧ q < w.heap.size) := ⟨hq, hPq, hTq, (Array.getElem?_eq_some_iff.1 hX).1⟩
 have HX : Hid (w.heap[q]? = some (.cells #[.int .i64 0, .int .i64 (a : Int), .string ⟨#[]⟩, .pointer none, .pointer none, .slice none 0 0, .slice none 0 0] 147)) := hX
 have HY : Hid (str (hd l).t = .string y) := hy
 have HG0 : Hid (∀ e w', NmPost w0 w P T q (zQ a l) e w' → NmPost w0 w P T q (zQ a l) e w') := fun _ _ h => h
 generalize hG : NmPost w0 w P T q (zQ a l) = G at *
 clear HG0
 have HG0 : Hid (∀ e w', NmPost w0 w P T q (zQ a l) e w' → G e w') := fun e w' h => by rw [← hG]; exact h
 clear h he0 hg0 hq hPq hTq hX hy hyt hG
 go_enter Tryz.func205, Tryz.ntmps205
 go_wp2_with (go_at_call 93; fail)
 refine (nm_at HA.out).mono ?_
 rintro e w2 (⟨hv, rfl, hp, hg, he, hlt⟩ | ⟨k, hv, ⟨b, rfl, hb⟩, hg⟩)
 rotate_left
 ·refine ⟨rfl, HG0.out _ _ (.inr ⟨k, _, ?_, ⟨b, rfl, hb⟩, HG.out.trans hg⟩)⟩
  unfold zQ
  rw [hv]
  rfl
 have HN2 : Hid (zI l = .ok ((hd l).t, l.tail)) := hv
 have HX2 : Hid (w2.heap[q]? = some (.cells #[.int .i64 0, .int .i64 (a : Int), .string ⟨#[]⟩, .pointer none, .pointer none, .slice none 0 0, .slice none 0 0] 147)) := hg.blk HX.out (by have := HQ.out; omega)
 have HG2 : Hid (Gr P w0 w2) := HG.out.trans hg
 have HS2 : Hid (w.heap.size ≤ w2.heap.size) := hg.size
 have HA2 : Hid (At w2 P T (o + 3) (c - 1) d l.tail) := HA.out.go hg hp he (by have := HA.out.deep; omega)
 have HL2 : Hid (l.tail.length < l.length) := hlt
 rw [HY.out]
 clear hv hp hg he hlt HX HG
 go_wp2_with (go_at_call 94; fail)
 refine (qW HA2.out ⟨#[40]⟩ (by decide)).mono ?_
 rintro e w3 (⟨hv, rfl, hp, hg, he, hlt⟩ | ⟨hv, rfl, hb⟩)
 ·have hx3 := hg.blk HX2.out (by have := HQ.out; omega)
  have f0 := zb hx3 0
  have c0 := z_ (i := 0) hx3 rfl
  have HX3 : Hid (w3.heap[q]? = some (.cells #[.int .i64 0, .int .i64 (a : Int), .string ⟨#[]⟩, .pointer none, .pointer none, .slice none 0 0, .slice none 0 0] 147)) := hx3
  have HG3 : Hid (Gr P w0 w3) := HG2.out.trans hg
  have HS3 : Hid (w.heap.size ≤ w3.heap.size) := Nat.le_trans HS2.out hg.size
  have HV3 : Hid ((hd l.tail).t = [40]) := hv
  have HP3 : Hid (PS w3 P T (o + 3 + 3) (c - 1 - 1) l.tail.tail) := hp
  have HE3 : Hid (Ends l.tail.tail ∧ l.tail.tail.length < l.tail.length) := ⟨he, hlt⟩
  clear hx3 hv hp hg he hlt HX2 HG2
  go_wp2_with fail
  obtain ⟨W3, hW3⟩ : ∃ W3, W3 = w3.setCell ⟨q, 0, none⟩ (.int .i64 8) := ⟨_, rfl⟩
  have HX4 : Hid (W3.heap[q]? = some (.cells #[.int .i64 8, .int .i64 (a : Int), .string ⟨#[]⟩, .pointer none, .pointer none, .slice none 0 0, .slice none 0 0] 147)) := by
   show _ = _
   rw [hW3]
   exact heap_setCell_same _ _ _ _ _ _ HX3.out
  have HX4d : Hid (W3.drew.heap[q]? = some (.cells #[.int .i64 8, .int .i64 (a : Int), .string ⟨#[]⟩, .pointer none, .pointer none, .slice none 0 0, .slice none 0 0] 147)) := HX4.out
  have HP4 : Hid (PS W3.drew P T (o + 3 + 3) (c - 1 - 1) l.tail.tail) := by
   show PS _ _ _ _ _ _
   rw [hW3]
   exact (HP3.out.set HQ.out.2.1 HQ.out.2.2.1).below (Below.refl _ _).drew
  have HG4 : Hid (Gr P w0 W3.drew) := by
   show Gr _ _ _
   rw [hW3]
   exact (HG3.out.set HQ.out.1).trans (zd (Below.refl _ _).drew)
  have HS4 : Hid (w.heap.size ≤ W3.drew.heap.size) := by
   show _ ≤ _
   rw [hW3]
   show w.heap.size ≤ (w3.setCell ⟨q, 0, none⟩ (.int .i64 8)).heap.size
   simp
   exact HS3.out
  rw [← hW3]
  clear hW3 HX3 HP3 HG3 f0 c0
  have HA4 : Hid (At W3.drew P T (o + 3 + 3) (c - 1 - 1) d l.tail.tail) := at_of HE0.out HG4.out HA.out.far HP4.out HE3.out.1 (by have := HA.out.deep; have := HL2.out; have := HE3.out.2; omega)
  have hc1 : W3.cell? ⟨q, 1, none⟩ = some (.int .i64 (a : Int)) := z_ HX4.out rfl
  go_region_with (go_at_call 233; refine (args_at HA4.out (by have := HA.out.deep; have := HL2.out; have := HE3.out.2; omega)).mono ?_; intro e w5 hpost; rcases hpost.parts with ⟨t1, l1, v1, ys, o1, c1, hr, rfl, ho5, hx5, hp5, hg5⟩ | ⟨k, p, hr, ⟨b, rfl, hb⟩, hg5⟩; rotate_left; exact (by refine ⟨rfl, HG0.out _ _ (.inr ⟨k, p, ?_, ⟨b, rfl, hb⟩, HG4.out.trans hg5⟩)⟩; unfold zQ; rw [HN2.out]; show (if (hd l.tail).t = [40] then _ else _) = _; rw [if_pos HV3.out, hr]; rfl); obtain ⟨qv, cv, rfl⟩ := ze ho5; have hx5q := hg5.blk HX4d.out (by have := HQ.out; omega); have f4 := zb hx5q 4; have cc1 := z_ (i := 1) hx5q rfl; have cc4 := z_ (i := 4) hx5q rfl; have HX5 : Hid (w5.heap[q]? = some (.cells #[.int .i64 8, .int .i64 (a : Int), .string ⟨#[]⟩, .pointer none, .pointer none, .slice none 0 0, .slice none 0 0] 147)) := hx5q; have HO5 : Hid (w5.ownsRow W3.drew.heap.size 145 1 (.slice qv ys.length cv) ys.length ys) := ho5; have HT5 : Hid (ExAt (Fr W3.drew.heap.size) w5 t1 (.tuple ys.toArray)) := hx5; have HP5 : Hid (PS w5 P T o1 c1 l1) := hp5; have HG5 : Hid (Gr P w0 w5) := HG4.out.trans hg5; have HS5 : Hid (w.heap.size ≤ w5.heap.size) := Nat.le_trans HS4.out hg5.size; have HR : Hid (argsV l.tail.tail = .ok (t1, l1)) := hr; have hqs : q < w5.heap.size := (Array.getElem?_eq_some_iff.1 hx5q).1; clear hpost hr ho5 hx5 hp5 hg5 hx5q)
  all_goals
   go_wp2
   refine bodyPost_ret (results_none rfl _ _ _) rfl ?_
   refine HG0.out _ _ (.inl ⟨st 8 (a : Int) [] .nil (nd 5 (a : Int) 0 (hd l).t [] .nil .nil t1) ce ce, l1, #[.int .i64 8, .int .i64 (a : Int), .string ⟨#[]⟩, .pointer none, .pointer (some ⟨w5.heap.size, 0, none⟩), .slice none 0 0, .slice none 0 0], o1, c1, ?_, rfl, ?_, ?_, ?_, ?_⟩)
   ·unfold zQ
    rw [HN2.out]
    show (if (hd l.tail).t = [40] then _ else _) = _
    rw [if_pos HV3.out, HR.out]
    rfl
   ·rw [zn (by simp; omega)]
    exact heap_setCell_same _ _ _ _ _ _ HX5.out
   ·have hqm : q < W3.drew.heap.size := (Array.getElem?_eq_some_iff.1 HX4d.out).1
    have hk : Keeps (Fr W3.drew.heap.size) w5 (w5.setCell ⟨q, 4, none⟩ (.pointer (some ⟨w5.heap.size, 0, none⟩))) := Keeps.set hqm
    have hsz : (w5.setCell ⟨q, 4, none⟩ (.pointer (some ⟨w5.heap.size, 0, none⟩))).heap.size = w5.heap.size := by simp
    have hn := call_new (S := Fr w.heap.size) (p := (a : Int)) (w := w5.setCell ⟨q, 4, none⟩ (.pointer (some ⟨w5.heap.size, 0, none⟩))) HY.out (by show w.heap.size ≤ _; rw [hsz]; exact HS5.out) (hk.row (by decide) HO5.out (fun i hi => (HO5.out.lt i hi).1)) (fun i hi => Nat.le_trans HS4.out (HO5.out.lt i hi).1) ((hk.ex HT5.out).old HS4.out)
    rw [hsz] at hn
    exact st_plain (qo _ _) hn
   ·exact (HP5.out.set HQ.out.2.1 HQ.out.2.2.1).below ((Below.refl _ _).alloc (Nat.le_refl _) _)
   ·exact (HG5.out.set HQ.out.1).alloc _
 ·have hg : Gr P w2 w3 := zd hb
  have hx3 := hg.blk HX2.out (by have := HQ.out; omega)
  have f0 := zb hx3 0
  have f2 := zb hx3 2
  have c0 := z_ (i := 0) hx3 rfl
  have c2 := z_ (i := 2) hx3 rfl
  have HX3 : Hid (w3.heap[q]? = some (.cells #[.int .i64 0, .int .i64 (a : Int), .string ⟨#[]⟩, .pointer none, .pointer none, .slice none 0 0, .slice none 0 0] 147)) := hx3
  have HG3 : Hid (Gr P w0 w3) := HG2.out.trans hg
  have HS3 : Hid (w.heap.size ≤ w3.heap.size) := Nat.le_trans HS2.out hg.size
  have HV3 : Hid (¬ (hd l.tail).t = [40]) := hv
  have HP3 : Hid (PS w3 P T (o + 3) (c - 1) l.tail) := HA2.out.ps.below hb
  have HE2 : Hid (Ends l.tail) := HA2.out.ends
  clear hx3 hv hg hb HX2 HG2 HA2
  go_wp2_with (go_at_call 94; fail)
  obtain ⟨W4, hW4⟩ : ∃ W4, W4 = (w3.setCell ⟨q, 0, none⟩ (.int .i64 2)).setCell ⟨q, 2, none⟩ (.string y) := ⟨_, rfl⟩
  have HX4 : Hid (W4.heap[q]? = some (.cells #[.int .i64 2, .int .i64 (a : Int), .string y, .pointer none, .pointer none, .slice none 0 0, .slice none 0 0] 147)) := by
   show _ = _
   rw [hW4]
   exact heap_setCell_same _ _ _ _ _ _ (heap_setCell_same _ _ _ _ _ _ HX3.out)
  have HP4 : Hid (PS W4 P T (o + 3) (c - 1) l.tail) := by
   show PS _ _ _ _ _ _
   rw [hW4]
   exact (HP3.out.set HQ.out.2.1 HQ.out.2.2.1).set HQ.out.2.1 HQ.out.2.2.1
  have HG4 : Hid (Gr P w0 W4) := by
   show Gr _ _ _
   rw [hW4]
   exact (HG3.out.set HQ.out.1).set HQ.out.1
  have HS4 : Hid (w.heap.size ≤ W4.heap.size) := by
   show _ ≤ _
   rw [hW4]
   simp
   exact HS3.out
  rw [← hW4]
  clear hW4 HX3 HP3 HG3 HS3 f0 c0 f2 c2
  have HA4 : Hid (At W4 P T (o + 3) (c - 1) d l.tail) := at_of HE0.out HG4.out HA.out.far HP4.out HE2.out (by have := HA.out.deep; have := HL2.out; omega)
  refine (qW HA4.out ⟨#[91]⟩ (by decide)).mono ?_
  rintro e w5 (⟨hv, rfl, hp, hg, he, hlt⟩ | ⟨hv, rfl, hb⟩)
  ·have hx5 := hg.blk HX4.out (by have := HQ.out; omega)
   have HX5 : Hid (w5.heap[q]? = some (.cells #[.int .i64 2, .int .i64 (a : Int), .string y, .pointer none, .pointer none, .slice none 0 0, .slice none 0 0] 147)) := hx5
   have HG5 : Hid (Gr P w0 w5) := HG4.out.trans hg
   have HS5 : Hid (w.heap.size ≤ w5.heap.size) := Nat.le_trans HS4.out hg.size
   have HV5 : Hid ((hd l.tail).t = [91]) := hv
   have HA5 : Hid (At w5 P T (o + 3 + 3) (c - 1 - 1) d l.tail.tail) := at_of HE0.out HG5.out HA.out.far hp he (by have := HA.out.deep; have := HL2.out; omega)
   have HL5 : Hid (1 + l.tail.tail.length ≤ 100000) := by show _ ≤ _; have := HA.out.deep; have := HL2.out; omega
   clear hx5 hv hp hg he hlt HX4 HG4 HS4 HP4 HA4
   go_wp2_with (go_at_call 234; fail)
   refine (idx_at HA5.out HL5.out).mono ?_
   intro e w6 hpost
   rcases hpost.parts with ⟨t1, l1, v1, o1, c1, hr, rfl, hx6, hp6, hg6⟩ | ⟨k, p, hr, ⟨b, rfl, hb⟩, hg6⟩
   rotate_left
   ·refine ⟨rfl, HG0.out _ _ (.inr ⟨k, p, ?_, ⟨b, rfl, hb⟩, HG5.out.trans hg6⟩)⟩
    unfold zQ
    rw [HN2.out]
    show (if (hd l.tail).t = [40] then _ else if (hd l.tail).t = [91] then _ else _) = _
    rw [if_neg HV3.out, if_pos HV5.out, hr]
    rfl
   obtain ⟨vb, rfl⟩ := idx_ptr hr hx6
   obtain ⟨he6, hlt6⟩ := idx_tail hr HA5.out.ends
   have hx6q := hg6.blk HX5.out (by have := HQ.out; omega)
   have f0 := zb hx6q 0
   have f3 := zb hx6q 3
   have c0 := z_ (i := 0) hx6q rfl
   have c3 := z_ (i := 3) hx6q rfl
   have HX6 : Hid (w6.heap[q]? = some (.cells #[.int .i64 2, .int .i64 (a : Int), .string y, .pointer none, .pointer none, .slice none 0 0, .slice none 0 0] 147)) := hx6q
   have HT6 : Hid (ExAt (Fr w5.heap.size) w6 t1 (.pointer (some ⟨vb, 0, none⟩))) := hx6
   have HP6 : Hid (PS w6 P T o1 c1 l1) := hp6
   have HG6 : Hid (Gr P w0 w6) := HG5.out.trans hg6
   have HS6 : Hid (w.heap.size ≤ w6.heap.size) := Nat.le_trans HS5.out hg6.size
   have HE6 : Hid (Ends l1 ∧ l1.length < l.tail.tail.length) := ⟨he6, hlt6⟩
   have HR6 : Hid (idxV l.tail.tail = .ok (t1, l1)) := hr
   clear hpost hr hx6 hp6 hg6 hx6q he6 hlt6 HX5 HG5
   go_wp2_with (go_at_call 92; fail)
   obtain ⟨W7, hW7⟩ : ∃ W7, W7 = (w6.setCell ⟨q, 0, none⟩ (.int .i64 3)).setCell ⟨q, 3, none⟩ (.pointer (some ⟨vb, 0, none⟩)) := ⟨_, rfl⟩
   have HX7 : Hid (W7.heap[q]? = some (.cells #[.int .i64 3, .int .i64 (a : Int), .string y, .pointer (some ⟨vb, 0, none⟩), .pointer none, .slice none 0 0, .slice none 0 0] 147)) := by
    show _ = _
    rw [hW7]
    exact heap_setCell_same _ _ _ _ _ _ (heap_setCell_same _ _ _ _ _ _ HX6.out)
   have HT7 : Hid (ExAt (Fr w.heap.size) W7 t1 (.pointer (some ⟨vb, 0, none⟩))) := by
    show ExAt _ _ _ _
    rw [hW7]
    have hq5 : q < w5.heap.size := by have := HQ.out; have := HS5.out; omega
    exact (((Keeps.set hq5).trans (Keeps.set hq5)).ex HT6.out).old HS5.out
   have HP7 : Hid (PS W7 P T o1 c1 l1) := by
    show PS _ _ _ _ _ _
    rw [hW7]
    exact (HP6.out.set HQ.out.2.1 HQ.out.2.2.1).set HQ.out.2.1 HQ.out.2.2.1
   have HG7 : Hid (Gr P w0 W7) := by
    show Gr _ _ _
    rw [hW7]
    exact (HG6.out.set HQ.out.1).set HQ.out.1
   have HS7 : Hid (w.heap.size ≤ W7.heap.size) := by
    show _ ≤ _
    rw [hW7]
    simp
    exact HS6.out
   rw [← hW7]
   clear hW7 HX6 HP6 HG6 HS6 f0 c0 f3 c3 HT6
   have HA7 : Hid (At W7 P T o1 c1 d l1) := at_of HE0.out HG7.out HA.out.far HP7.out HE6.out.1 (by have := HA.out.deep; have := HL2.out; have := HA5.out.deep; have := HE6.out.2; omega)
   refine (nee_at HA7.out ⟨#[61]⟩ (by decide)).mono ?_
   rintro e w8 (⟨hv, rfl, hp, hg, he, hlt⟩ | ⟨hv, ⟨b, rfl, hb⟩, hg⟩)
   rotate_left
   ·refine ⟨rfl, HG0.out _ _ (.inr ⟨_, _, ?_, ⟨b, rfl, hb⟩, HG7.out.trans hg⟩)⟩
    unfold zQ
    rw [HN2.out]
    show (if (hd l.tail).t = [40] then _ else if (hd l.tail).t = [91] then _ else _) = _
    rw [if_neg HV3.out, if_pos HV5.out, HR6.out]
    show bnd (zf [61] l1) _ = _
    have hv' : zf [61] l1 = _ := hv
    rw [hv']
    rfl
   have HX8 : Hid (w8.heap[q]? = some (.cells #[.int .i64 3, .int .i64 (a : Int), .string y, .pointer (some ⟨vb, 0, none⟩), .pointer none, .slice none 0 0, .slice none 0 0] 147)) := hg.blk HX7.out (by have := HQ.out; omega)
   have HG8 : Hid (Gr P w0 w8) := HG7.out.trans hg
   have HS8 : Hid (w.heap.size ≤ w8.heap.size) := Nat.le_trans HS7.out hg.size
   have HT8 : Hid (ExAt (Fr w.heap.size) w8 t1 (.pointer (some ⟨vb, 0, none⟩))) := jf HP7.out hg HT7.out
   have HV8 : Hid (zf [61] l1 = .ok ((), l1.tail)) := hv
   have HA8 : Hid (At w8 P T (o1 + 3) (c1 - 1) d l1.tail) := at_of HE0.out HG8.out HA.out.far hp he (by have := HA7.out.deep; omega)
   clear hv hp hg he hlt HX7 HT7 HP7 HG7 HA7
   go_wp2_with (go_at_call 206; fail)
   refine (expr_at HA8.out).mono ?_
   intro e w9 hpost
   rcases hpost.parts with ⟨t2, l2, v2, o2, c2, hr, rfl, hx9, hp9, hg9⟩ | ⟨k, p, hr, ⟨b, rfl, hb⟩, hg9⟩
   rotate_left
   ·refine ⟨rfl, HG0.out _ _ (.inr ⟨k, p, ?_, ⟨b, rfl, hb⟩, HG8.out.trans hg9⟩)⟩
    unfold zQ
    rw [HN2.out]
    show (if (hd l.tail).t = [40] then _ else if (hd l.tail).t = [91] then _ else _) = _
    rw [if_neg HV3.out, if_pos HV5.out, HR6.out]
    show bnd (zf [61] l1) _ = _
    rw [HV8.out]
    show bnd (zU l1.tail) _ = _
    rw [hr]
    rfl
   obtain ⟨vb2, rfl⟩ := expr_ptr hr hx9
   have hx9q := hg9.blk HX8.out (by have := HQ.out; omega)
   have f4 := zb hx9q 4
   have c4 := z_ (i := 4) hx9q rfl
   have HX9 : Hid (w9.heap[q]? = some (.cells #[.int .i64 3, .int .i64 (a : Int), .string y, .pointer (some ⟨vb, 0, none⟩), .pointer none, .slice none 0 0, .slice none 0 0] 147)) := hx9q
   have HT9 : Hid (ExAt (Fr w8.heap.size) w9 t2 (.pointer (some ⟨vb2, 0, none⟩))) := hx9
   have HT1 : Hid (ExAt (Fr w.heap.size) w9 t1 (.pointer (some ⟨vb, 0, none⟩))) := jf HA8.out.ps hg9 HT8.out
   have HP9 : Hid (PS w9 P T o2 c2 l2) := hp9
   have HG9 : Hid (Gr P w0 w9) := HG8.out.trans hg9
   have HR9 : Hid (zU l1.tail = .ok (t2, l2)) := hr
   clear hpost hr hx9 hp9 hg9 hx9q
   go_wp2
   go_end0
   have hq8 : q < w8.heap.size := by have := HQ.out; have := HS8.out; omega
   refine HG0.out _ _ (.inl ⟨st 3 (a : Int) (hd l).t t1 t2 ce ce, l2, #[.int .i64 3, .int .i64 (a : Int), .string y, .pointer (some ⟨vb, 0, none⟩), .pointer (some ⟨vb2, 0, none⟩), .slice none 0 0, .slice none 0 0], o2, c2, ?_, rfl, ?_, ?_, ?_, ?_⟩)
   ·unfold zQ
    rw [HN2.out]
    show (if (hd l.tail).t = [40] then _ else if (hd l.tail).t = [91] then _ else _) = _
    rw [if_neg HV3.out, if_pos HV5.out, HR6.out]
    show bnd (zf [61] l1) _ = _
    rw [HV8.out]
    show bnd (zU l1.tail) _ = _
    rw [HR9.out]
    rfl
   ·exact heap_setCell_same _ _ _ _ _ _ HX9.out
   ·show StAt _ _ _ [.int .i64 3, .int .i64 (a : Int), .string y, .pointer (some ⟨vb, 0, none⟩), .pointer (some ⟨vb2, 0, none⟩), .slice none 0 0, .slice none 0 0]
    rw [← HY.out]
    exact st_plain ((Keeps.set HQ.out.2.2.2).ex HT1.out) (((Keeps.set hq8).ex HT9.out).old HS8.out)
   ·exact HP9.out.set HQ.out.2.1 HQ.out.2.2.1
   ·exact HG9.out.set HQ.out.1
  ·have hg : Gr P W4 w5 := zd hb
   have HX7 : Hid (w5.heap[q]? = some (.cells #[.int .i64 2, .int .i64 (a : Int), .string y, .pointer none, .pointer none, .slice none 0 0, .slice none 0 0] 147)) := hg.blk HX4.out (by have := HQ.out; omega)
   have HG7 : Hid (Gr P w0 w5) := HG4.out.trans hg
   have HS7 : Hid (w.heap.size ≤ w5.heap.size) := Nat.le_trans HS4.out hg.size
   have HV5 : Hid (¬ (hd l.tail).t = [91]) := hv
   have HA7 : Hid (At w5 P T (o + 3) (c - 1) d l.tail) := HA4.out.below hb
   clear hv hb hg HX4 HG4 HS4 HP4 HA4
   go_wp2_with (go_at_call 92; fail)
   refine (nee_at HA7.out ⟨#[61]⟩ (by decide)).mono ?_
   rintro e w8 (⟨hv, rfl, hp, hg, he, hlt⟩ | ⟨hv, ⟨b, rfl, hb⟩, hg⟩)
   rotate_left
   ·refine ⟨rfl, HG0.out _ _ (.inr ⟨_, _, ?_, ⟨b, rfl, hb⟩, HG7.out.trans hg⟩)⟩
    unfold zQ
    rw [HN2.out]
    show (if (hd l.tail).t = [40] then _ else if (hd l.tail).t = [91] then _ else bnd (zf [61] l.tail) _) = _
    rw [if_neg HV3.out, if_neg HV5.out]
    have hv' : zf [61] l.tail = _ := hv
    rw [hv']
    rfl
   have HX8 : Hid (w8.heap[q]? = some (.cells #[.int .i64 2, .int .i64 (a : Int), .string y, .pointer none, .pointer none, .slice none 0 0, .slice none 0 0] 147)) := hg.blk HX7.out (by have := HQ.out; omega)
   have HG8 : Hid (Gr P w0 w8) := HG7.out.trans hg
   have HS8 : Hid (w.heap.size ≤ w8.heap.size) := Nat.le_trans HS7.out hg.size
   have HV8 : Hid (zf [61] l.tail = .ok ((), l.tail.tail)) := hv
   have HA8 : Hid (At w8 P T (o + 3 + 3) (c - 1 - 1) d l.tail.tail) := at_of HE0.out HG8.out HA.out.far hp he (by have := HA7.out.deep; omega)
   clear hv hp hg he hlt HX7 HG7 HA7
   go_wp2_with (go_at_call 206; fail)
   refine (expr_at HA8.out).mono ?_
   intro e w9 hpost
   rcases hpost.parts with ⟨t2, l2, v2, o2, c2, hr, rfl, hx9, hp9, hg9⟩ | ⟨k, p, hr, ⟨b, rfl, hb⟩, hg9⟩
   rotate_left
   ·refine ⟨rfl, HG0.out _ _ (.inr ⟨k, p, ?_, ⟨b, rfl, hb⟩, HG8.out.trans hg9⟩)⟩
    unfold zQ
    rw [HN2.out]
    show (if (hd l.tail).t = [40] then _ else if (hd l.tail).t = [91] then _ else bnd (zf [61] l.tail) _) = _
    rw [if_neg HV3.out, if_neg HV5.out, HV8.out]
    show bnd (zU l.tail.tail) _ = _
    rw [hr]
    rfl
   obtain ⟨vb2, rfl⟩ := expr_ptr hr hx9
   have hx9q := hg9.blk HX8.out (by have := HQ.out; omega)
   have f4 := zb hx9q 4
   have c4 := z_ (i := 4) hx9q rfl
   have HX9 : Hid (w9.heap[q]? = some (.cells #[.int .i64 2, .int .i64 (a : Int), .string y, .pointer none, .pointer none, .slice none 0 0, .slice none 0 0] 147)) := hx9q
   have HT9 : Hid (ExAt (Fr w8.heap.size) w9 t2 (.pointer (some ⟨vb2, 0, none⟩))) := hx9
   have HP9 : Hid (PS w9 P T o2 c2 l2) := hp9
   have HG9 : Hid (Gr P w0 w9) := HG8.out.trans hg9
   have HR9 : Hid (zU l.tail.tail = .ok (t2, l2)) := hr
   clear hpost hr hx9 hp9 hg9 hx9q
   go_wp2
   go_end0
   have hq8 : q < w8.heap.size := by have := HQ.out; have := HS8.out; omega
   refine HG0.out _ _ (.inl ⟨st 2 (a : Int) (hd l).t .nil t2 ce ce, l2, #[.int .i64 2, .int .i64 (a : Int), .string y, .pointer none, .pointer (some ⟨vb2, 0, none⟩), .slice none 0 0, .slice none 0 0], o2, c2, ?_, rfl, ?_, ?_, ?_, ?_⟩)
   ·unfold zQ
    rw [HN2.out]
    show (if (hd l.tail).t = [40] then _ else if (hd l.tail).t = [91] then _ else bnd (zf [61] l.tail) _) = _
    rw [if_neg HV3.out, if_neg HV5.out, HV8.out]
    show bnd (zU l.tail.tail) _ = _
    rw [HR9.out]
    rfl
   ·exact heap_setCell_same _ _ _ _ _ _ HX9.out
   ·show StAt _ _ _ [.int .i64 2, .int .i64 (a : Int), .string y, .pointer none, .pointer (some ⟨vb2, 0, none⟩), .slice none 0 0, .slice none 0 0]
    rw [← HY.out]
    exact st_plain (qo _ _) (((Keeps.set hq8).ex HT9.out).old HS8.out)
   ·exact HP9.out.set HQ.out.2.1 HQ.out.2.2.1
   ·exact HG9.out.set HQ.out.1
def SPost (w : World) (P T : Nat) (r : R Tr) (e : Ending) (w' : World) : Prop :=
 (∃ t l' cs o' c', r = .ok (t, l') ∧ e = .returned (.agg cs) ∧ StAt (Fr w.heap.size) w' (cc t ce) cs.toList ∧ PS w' P T o' c' l' ∧ Gr P w w') ∨ (∃ k p, r = .error (k, p) ∧ zH k p e w' ∧ Gr P w w')
def BPost (w : World) (P T : Nat) (r : R Tr) (e : Ending) (w' : World) : Prop :=
 (∃ t l' v n cs o' c', r = .ok (t, l') ∧ e = .returned v ∧ w'.ownsRow w.heap.size 147 7 v n cs ∧ StAt (Fr w.heap.size) w' t cs ∧ PS w' P T o' c' l' ∧ Gr P w w') ∨ (∃ k p, r = .error (k, p) ∧ zH k p e w' ∧ Gr P w w')
def BlkC (f : Nat) : Prop := ∀ (d : Nat) (w : World) (P T o c : Nat) (l : List Tok), At w P T o c d l → 3 * l.length + 2 ≤ f → Calls Tryz.prog 97 #[.pointer (some ⟨P, 0, none⟩), .int .i64 (d : Int)] w (BPost w P T (stV f 0 d l))
def StmC (f : Nat) : Prop := ∀ (d : Nat) (w : World) (P T o c : Nat) (l : List Tok), At w P T o c d l → 3 * l.length ≤ f → Calls Tryz.prog 149 #[.pointer (some ⟨P, 0, none⟩), .int .i64 (d : Int)] w (SPost w P T (stV f 2 d l))
theorem st_cells {S : Nat → Prop} {w : World} {t : Tr} {cs : Array Value} (h : StAt S w (cc t ce) cs.toList) : ∃ (n0 n1 : Int) (y2 : ByteArray) (p3 p4 : Option Addr) (s5 : Option Addr) (m5 c5 : Nat) (s6 : Option Addr) (m6 c6 : Nat), cs = #[.int .i64 n0, .int .i64 n1, .string y2, .pointer p3, .pointer p4, .slice s5 m5 c5, .slice s6 m6 c6] := by
 unfold StAt at h
 split at h
 ·rename_i heq
  obtain ⟨vi, vv, vt, ve, nt, ne, ts, es, rest, e, a1, a2, a3, a4, a5, a6, a7⟩ := h
  injection heq with h1 h2
  injection h2 with h2 _
  subst h2
  have : rest = [] := by rw [StAt] at a7; exact a7
  subst this
  obtain ⟨q5, c5, rfl⟩ := ze a3.1
  obtain ⟨q6, c6, rfl⟩ := ze a5.1
  have h := congrArg List.toArray e
  rw [Array.toArray_toList] at h
  exact ⟨_, _, _, _, _, _, _, _, _, _, _, h⟩
 ·rename_i heq
  injection heq with h1 h2
  cases h1
 ·exact h.elim
theorem resSt {fn : Func} {p : Tmp} (h : fn.results = #[.cell p 147]) (tmps : Array Value) (w : World) (g : Nat) (a0 a1 a2 a3 a4 a5 a6 : Value) (hp : tmps.getD p undef = .pointer (some ⟨g, 0, none⟩)) (hg : w.heap[g]? = some (.cells #[a0, a1, a2, a3, a4, a5, a6] 147)) :
  (results fn tmps).run Tryz.prog w = .ok (.agg #[a0, a1, a2, a3, a4, a5, a6]) w := by
 rw [jb h, hp]
 have h1 : (loadVar 147 ⟨g, 0, none⟩).run Tryz.prog w = .ok (.agg #[a0, a1, a2, a3, a4, a5, a6]) w := run_loadVar_row w g 147 147 _ (0, 0) _ hg Tryz.underlying147 rfl (by kernel_rfl)
 simp only [asAddr, Sem.run_pure, Result.andThen_ok, h1]
structure StI (w : World) (P q : Nat) (cs : Array Value) (W : World) : Prop where
 res : W.heap[w.heap.size]? = some (.cells #[.int .i64 0, .int .i64 0, .string ⟨#[]⟩, .pointer none, .pointer none, .slice none 0 0, .slice none 0 0] 147)
 blk : W.heap[q]? = some (.cells cs 147)
 gr : Gr P w W
 ltq : w.heap.size < q
 ltP : P < w.heap.size
theorem StI.go {w W W' : World} {P q : Nat} {cs : Array Value} (h : StI w P q cs W) (hg : Gr P W W') : StI w P q cs W' := ⟨hg.blk h.res (by have := h.ltP; omega), hg.blk h.blk (by have := h.ltP; have := h.ltq; omega), h.gr.trans hg, h.ltq, h.ltP⟩
theorem StI.lt {w W : World} {P q : Nat} {cs : Array Value} (h : StI w P q cs W) : q < W.heap.size := (Array.getElem?_eq_some_iff.1 h.blk).1
theorem StI.set {w W : World} {P q : Nat} {cs : Array Value} (h : StI w P q cs W) (i : Nat) (v : Value) : StI w P q (cs.setIfInBounds i v) (W.setCell ⟨q, i, none⟩ v) :=
 ⟨by rw [heap_setCell_other _ _ _ _ (by show w.heap.size ≠ q; have := h.ltq; omega)]; exact h.res, heap_setCell_same _ _ _ _ _ _ h.blk, h.gr.set (by have := h.ltq; omega), h.ltq, h.ltP⟩
abbrev set7 (W : World) (R : Nat) (a0 a1 a2 a3 a4 a5 a6 : Value) : World := ((((((W.setCell ⟨R, 0, none⟩ a0).setCell ⟨R, 1, none⟩ a1).setCell ⟨R, 2, none⟩ a2).setCell ⟨R, 3, none⟩ a3).setCell ⟨R, 4, none⟩ a4).setCell ⟨R, 5, none⟩ a5).setCell ⟨R, 6, none⟩ a6
theorem st_fin {w W : World} {P T q m o c : Nat} {t : Tr} {l : List Tok} {a0 a1 a2 a3 a4 a5 a6 : Value} (h : StI w P q #[a0, a1, a2, a3, a4, a5, a6] W) (hm : w.heap.size < m) (hx : StAt (Fr m) W (cc t ce) [a0, a1, a2, a3, a4, a5, a6]) (hp : PS W P T o c l) (hT : T < w.heap.size) :
  (set7 W w.heap.size a0 a1 a2 a3 a4 a5 a6).heap[w.heap.size]? = some (.cells #[a0, a1, a2, a3, a4, a5, a6] 147) ∧ StAt (Fr w.heap.size) (set7 W w.heap.size a0 a1 a2 a3 a4 a5 a6) (cc t ce) [a0, a1, a2, a3, a4, a5, a6] ∧ PS (set7 W w.heap.size a0 a1 a2 a3 a4 a5 a6) P T o c l ∧ Gr P w (set7 W w.heap.size a0 a1 a2 a3 a4 a5 a6) := by
 refine ⟨?_, ?_, ?_, ?_⟩
 ·exact heap_setCell_same _ _ _ _ _ _ (heap_setCell_same _ _ _ _ _ _ (heap_setCell_same _ _ _ _ _ _ (heap_setCell_same _ _ _ _ _ _ (heap_setCell_same _ _ _ _ _ _ (heap_setCell_same _ _ _ _ _ _ (heap_setCell_same _ _ _ _ _ _ h.res))))))
 ·refine StAt.old (StAt.kept ?_ _ _ hx) (Nat.le_of_lt hm)
  exact ((((((Keeps.set hm).trans (Keeps.set hm)).trans (Keeps.set hm)).trans (Keeps.set hm)).trans (Keeps.set hm)).trans (Keeps.set hm)).trans (Keeps.set hm)
 ·exact ((((((hp.set h.ltP hT).set h.ltP hT).set h.ltP hT).set h.ltP hT).set h.ltP hT).set h.ltP hT).set h.ltP hT
 ·have hl : w.heap.size ≤ w.heap.size := Nat.le_refl _
  exact ((((((h.gr.set hl).set hl).set hl).set hl).set hl).set hl).set hl
theorem StI.cells {w W : World} {P q : Nat} {a0 a1 a2 a3 a4 a5 a6 : Value} (h : StI w P q #[a0, a1, a2, a3, a4, a5, a6] W) :
  W.cell? ⟨q, 0, none⟩ = some a0 ∧ W.cell? ⟨q, 1, none⟩ = some a1 ∧ W.cell? ⟨q, 2, none⟩ = some a2 ∧ W.cell? ⟨q, 3, none⟩ = some a3 ∧ W.cell? ⟨q, 4, none⟩ = some a4 ∧ W.cell? ⟨q, 5, none⟩ = some a5 ∧ W.cell? ⟨q, 6, none⟩ = some a6 :=
 ⟨z_ h.blk rfl, z_ h.blk rfl, z_ h.blk rfl, z_ h.blk rfl, z_ h.blk rfl, z_ h.blk rfl, z_ h.blk rfl⟩
theorem StI.rcells {w W : World} {P q : Nat} {cs : Array Value} (h : StI w P q cs W) :
  W.cell? ⟨w.heap.size, 0, none⟩ = some (.int .i64 0) ∧ W.cell? ⟨w.heap.size, 1, none⟩ = some (.int .i64 0) ∧ W.cell? ⟨w.heap.size, 2, none⟩ = some (.string ⟨#[]⟩) ∧ W.cell? ⟨w.heap.size, 3, none⟩ = some (.pointer none) ∧ W.cell? ⟨w.heap.size, 4, none⟩ = some (.pointer none) ∧ W.cell? ⟨w.heap.size, 5, none⟩ = some (.slice none 0 0) ∧ W.cell? ⟨w.heap.size, 6, none⟩ = some (.slice none 0 0) ∧ (∀ i, W.frozen? ⟨w.heap.size, i, none⟩ = false) :=
 ⟨z_ h.res rfl, z_ h.res rfl, z_ h.res rfl, z_ h.res rfl, z_ h.res rfl, z_ h.res rfl, z_ h.res rfl, fun i => zb h.res i⟩
theorem stmt_named (f : Nat) (d : Nat) (w : World) (P T o c : Nat) (l : List Tok) (h : At w P T o c d l) (hk : (hd l).k = 0) :
  Calls Tryz.prog 149 #[.pointer (some ⟨P, 0, none⟩), .int .i64 (d : Int)] w (SPost w P T (stV (f + 1) 2 d l)) := by
 obtain ⟨y, hy, hyt⟩ := zt (hd l).t
 have HF : Hid (∀ W, Below w.heap.size w W → Calls Tryz.prog 59 #[.pointer (some ⟨P, 0, none⟩)] W fun e w' => e = .returned (.agg #[.int .i64 0, .string y, .int .i64 ((hd l).p : Int)]) ∧ Below w.heap.size w w' ∧ Gr P W w') := fun W hb => by
  have hA := h.below hb
  have := qM W P T o c (hd l) l.tail hA.psc y hy
  rw [hk] at this
  exact this.mono fun e w' ⟨a, b⟩ => ⟨a, hb.trans (b.mono hb.size), zd b⟩
 have HA : Hid (At w P T o c d l) := h
 have HM : Hid (stV (f + 1) 2 d l = bnd (zQ (hd l).p l) fun t l1 => bnd (zf [59] l1) fun _ l2 => .ok (t, l2)) := by
  show _ = _
  rw [stV, if_pos hk]
 have HG0 : Hid (∀ e w', SPost w P T (stV (f + 1) 2 d l) e w' → SPost w P T (stV (f + 1) 2 d l) e w') := fun _ _ h => h
 generalize hG : SPost w P T (stV (f + 1) 2 d l) = G at *
 clear HG0
 have HG0 : Hid (∀ e w', SPost w P T (stV (f + 1) 2 d l) e w' → G e w') := fun e w' h => by rw [← hG]; exact h
 have h0 := fld0
 have h2 := fld2
 clear h hk hy hyt hG
 go_enter Tryz.func149, Tryz.ntmps149
 go_wp2_with (go_at_call 59; fail)
 refine (HF.out _ ((Below.refl _ _).alloc (Nat.le_refl _) _)).mono ?_
 rintro e w1 ⟨rfl, hb, hg⟩
 have HR1 : Hid (w1.heap[w.heap.size]? = some (.cells #[.int .i64 0, .int .i64 0, .string ⟨#[]⟩, .pointer none, .pointer none, .slice none 0 0, .slice none 0 0] 147)) := hg.blk (heap_alloc_last w _) (by have := HA.out.ltP; omega)
 have HB1 : Hid (Below w.heap.size w w1) := hb
 have HZ1 : Hid (Gr P (w.alloc (.cells #[.int .i64 0, .int .i64 0, .string ⟨#[]⟩, .pointer none, .pointer none, .slice none 0 0, .slice none 0 0] 147)) w1) := hg
 clear hb hg
 go_wp2_with (go_at_call 59; fail)
 obtain ⟨W1, hW1⟩ : ∃ W1, W1 = w1.alloc (.cells #[.int .i64 0, .int .i64 ((hd l).p : Int), .string ⟨#[]⟩, .pointer none, .pointer none, .slice none 0 0, .slice none 0 0] 147) := ⟨_, rfl⟩
 obtain ⟨q, hq⟩ : ∃ q, q = w1.heap.size := ⟨_, rfl⟩
 have hsz1 : w.heap.size < w1.heap.size := (Array.getElem?_eq_some_iff.1 HR1.out).1
 have HI1 : Hid (StI w P q #[.int .i64 0, .int .i64 ((hd l).p : Int), .string ⟨#[]⟩, .pointer none, .pointer none, .slice none 0 0, .slice none 0 0] W1) := by
  refine ⟨?_, ?_, ?_, by omega, HA.out.ltP⟩
  ·rw [hW1, zn hsz1]; exact HR1.out
  ·rw [hW1, hq]; exact heap_alloc_last w1 _
  ·rw [hW1]; exact (zd HB1.out).alloc _
 have HZ2 : Hid (Gr P (w.alloc (.cells #[.int .i64 0, .int .i64 0, .string ⟨#[]⟩, .pointer none, .pointer none, .slice none 0 0, .slice none 0 0] 147)) W1) := by
  show Gr _ _ _
  rw [hW1]
  exact HZ1.out.alloc _
 have HBW : Hid (Below w.heap.size w W1) := by
  show Below _ _ _
  rw [hW1]
  exact HB1.out.alloc HB1.out.size _
 rw [← hW1, ← hq]
 clear hW1 hq hsz1 HB1 HR1 HZ1
 refine (HF.out _ HBW.out).mono ?_
 rintro e w2 ⟨rfl, hb, hg⟩
 have HI2 : Hid (StI w P q #[.int .i64 0, .int .i64 ((hd l).p : Int), .string ⟨#[]⟩, .pointer none, .pointer none, .slice none 0 0, .slice none 0 0] w2) := HI1.out.go hg
 have HA2 : Hid (At w2 P T o c d l) := HA.out.below hb
 have HZ3 : Hid (Gr P (w.alloc (.cells #[.int .i64 0, .int .i64 0, .string ⟨#[]⟩, .pointer none, .pointer none, .slice none 0 0, .slice none 0 0] 147)) w2) := HZ2.out.trans hg
 clear hb hg HI1 HBW HZ2
 go_wp2_with (go_at_call 205; fail)
 have hEZ : Env (w.alloc (.cells #[.int .i64 0, .int .i64 0, .string ⟨#[]⟩, .pointer none, .pointer none, .slice none 0 0, .slice none 0 0] 147)) := HA.out.env.below ((Below.refl _ _).alloc (Nat.le_refl _) _)
 refine (named_walk (hd l).p d (w.alloc (.cells #[.int .i64 0, .int .i64 0, .string ⟨#[]⟩, .pointer none, .pointer none, .slice none 0 0, .slice none 0 0] 147)) w2 P T q o c l HA2.out hEZ HZ3.out (by have := HI2.out.ltq; simp; omega) (by have := HA.out.ltP; have := HI2.out.ltq; omega) (by have := HA.out.ltT; have := HI2.out.ltq; omega) HI2.out.blk).mono ?_
 rintro e w3 (⟨t, l1, cs, o1, c1, hr, rfl, hblk, hx, hp, hg⟩ | ⟨k, p, hr, ⟨b, rfl, hb⟩, hg⟩)
 rotate_left
 ·refine ⟨rfl, HG0.out _ _ (.inr ⟨k, p, ?_, ⟨b, rfl, hb⟩, (zd ((Below.refl _ _).alloc (Nat.le_refl _) _)).trans hg⟩)⟩
  rw [HM.out, hr]
  rfl
 obtain ⟨n0, n1, y2, p3, p4, s5, m5, c5, s6, m6, c6, rfl⟩ := st_cells hx
 have HI3 : Hid (StI w P q #[.int .i64 n0, .int .i64 n1, .string y2, .pointer p3, .pointer p4, .slice s5 m5 c5, .slice s6 m6 c6] w3) := ⟨hg.blk (heap_alloc_last w _) (by have := HA.out.ltP; omega), hblk, (zd ((Below.refl _ _).alloc (Nat.le_refl _) _)).trans hg, HI2.out.ltq, HA.out.ltP⟩
 have HX3 : Hid (StAt (Fr w2.heap.size) w3 (cc t ce) [.int .i64 n0, .int .i64 n1, .string y2, .pointer p3, .pointer p4, .slice s5 m5 c5, .slice s6 m6 c6]) := hx
 have HS2 : Hid (w.heap.size < w2.heap.size) := by show _ < _; have := HI2.out.ltq; have := HI2.out.lt; omega
 obtain ⟨he1, hl1⟩ := named_tail hr HA.out.ends
 have HA3 : Hid (At w3 P T o1 c1 d l1) := at_of hEZ hg HA.out.far hp he1 (by have := HA.out.deep; omega)
 have HR3 : Hid (zQ (hd l).p l = .ok (t, l1)) := hr
 clear hr hblk hx hp hg he1 hl1 hEZ HI2 HA2 HZ3
 go_wp2_with (go_at_call 92; fail)
 refine (nee_at HA3.out ⟨#[59]⟩ (by decide)).mono ?_
 rintro e w4 (⟨hv, rfl, hp, hg, he, hlt⟩ | ⟨hv, ⟨b, rfl, hb⟩, hg⟩)
 rotate_left
 ·refine ⟨rfl, HG0.out _ _ (.inr ⟨_, _, ?_, ⟨b, rfl, hb⟩, HI3.out.gr.trans hg⟩)⟩
  have hv' : zf [59] l1 = _ := hv
  rw [HM.out, HR3.out]
  show bnd (zf [59] l1) _ = _
  rw [hv']
  rfl
 have hI4 := HI3.out.go hg
 have HI4 : Hid (StI w P q #[.int .i64 n0, .int .i64 n1, .string y2, .pointer p3, .pointer p4, .slice s5 m5 c5, .slice s6 m6 c6] w4) := hI4
 have HX4 : Hid (StAt (Fr w2.heap.size) w4 (cc t ce) [.int .i64 n0, .int .i64 n1, .string y2, .pointer p3, .pointer p4, .slice s5 m5 c5, .slice s6 m6 c6]) := StAt.kept (Keeps.gr HA3.out.ps hg) _ _ HX3.out
 have HP4 : Hid (PS w4 P T (o1 + 3) (c1 - 1) l1.tail) := hp
 have HV4 : Hid (zf [59] l1 = .ok ((), l1.tail)) := hv
 obtain ⟨q0, q1, q2, q3, q4, q5, q6⟩ := hI4.cells
 obtain ⟨r0, r1, r2, r3, r4, r5, r6, rf⟩ := hI4.rcells
 have hne : ¬ w.heap.size = q := by have := hI4.ltq; omega
 have hne2 : ¬ q = w.heap.size := by have := hI4.ltq; omega
 clear hI4 hv hp hg he hlt HI3 HX3
 go_wp2
 obtain ⟨g1, g2, g3, g4⟩ := st_fin HI4.out HS2.out HX4.out HP4.out HA.out.ltT
 refine bodyPost_ret (resSt Tryz.results149 _ _ w.heap.size _ _ _ _ _ _ _ rfl g1) rfl (HG0.out _ _ (.inl ⟨t, l1.tail, _, _, _, ?_, rfl, g2, g3, g4⟩))
 rw [HM.out, HR3.out]
 show bnd (zf [59] l1) _ = _
 rw [HV4.out]
 rfl
end Go.Proofs.YtnfhpdbbfejioaaGreatDoor
