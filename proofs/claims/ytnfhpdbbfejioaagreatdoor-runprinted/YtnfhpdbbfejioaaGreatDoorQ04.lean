/- TH TE TI TJ -/
import Derived.Test.YtnfhpdbbfejioaaGreatDoorQ03
namespace Go.Proofs.YtnfhpdbbfejioaaGreatDoor
set_option linter.unusedVariables false
set_option linter.unusedSimpArgs false
set_option maxRecDepth 100000
set_option maxHeartbeats 4000000
open Go Go.RowKit
def HeldC (n : Nat) : Prop := ∀ (d : Nat) (w : World) (P T o c : Nat) (l : List Tok), At w P T o c d l → 12 * l.length ≤ n → Calls Tryz.prog 207 #[.pointer (some ⟨P, 0, none⟩), .int .i64 (d : Int)] w (ExPost w P T (exV n 5 0 d .nil 0 l))
theorem leaf_rest (n : Nat) (IH : HeldC n) (d : Nat) (w : World) (P T o c : Nat) (l : List Tok) (h : At w P T o c d l) (hn : 12 * l.length + 1 ≤ n + 1) (hk2 : (hd l).k ≠ 2) (hk0 : (hd l).k ≠ 0) :
  Calls Tryz.prog 256 #[.pointer (some ⟨P, 0, none⟩), .int .i64 (d : Int)] w (ExPost w P T (exV (n + 1) 4 0 d .nil 0 l)) := by
 obtain ⟨y, hy, hyt⟩ := zt (hd l).t
 have HF : Hid (Calls Tryz.prog 59 #[.pointer (some ⟨P, 0, none⟩)] w fun e w' => e = .returned (.agg #[.int .i64 ((hd l).k : Int), .string y, .int .i64 ((hd l).p : Int)]) ∧ Below w.heap.size w w') := look_at h y hy w (Below.refl _ _)
 have HA : Hid (At w P T o c d l) := h
 have HN : Hid (12 * l.length + 1 ≤ n + 1) := hn
 have HIH : Hid (HeldC n) := IH
 have b2 : (((hd l).k : Int) == 2) = false := by simp; omega
 have b0 : (((hd l).k : Int) == 0) = false := by simp; omega
 have HM : Hid (exV (n + 1) 4 0 d .nil 0 l = if (hd l).t = [110, 101, 119] then bnd (exV n 5 0 d .nil 0 l.tail) fun y l1 => .ok (nd 6 (hd l).p 0 [] [] y .nil ce, l1)
   else if (hd l).t = [108, 101, 110] then bnd (exV n 5 0 d .nil 0 l.tail) fun y l1 => .ok (nd 7 (hd l).p 0 [] [] y .nil ce, l1)
   else if (hd l).t = [105, 110, 112, 117, 116] then bnd (zf [40] l.tail) fun _ l1 => bnd (zf [41] l1) fun _ l2 => .ok (nd 9 (hd l).p 0 [] [] .nil .nil ce, l2)
   else exV n 5 0 d .nil 0 l) := by
  show _ = _
  rw [exV, if_neg hk2, if_neg hk0]
 have HG0 : Hid (∀ e w', ExPost w P T (exV (n + 1) 4 0 d .nil 0 l) e w' → ExPost w P T (exV (n + 1) 4 0 d .nil 0 l) e w') := fun _ _ h => h
 generalize hG : ExPost w P T (exV (n + 1) 4 0 d .nil 0 l) = G at *
 clear HG0
 have HG0 : Hid (∀ e w', ExPost w P T (exV (n + 1) 4 0 d .nil 0 l) e w' → G e w') := fun e w' h => by rw [← hG]; exact h
 clear h hk2 hk0 hy hyt hG hn IH
 go_enter Tryz.func256, Tryz.ntmps256
 go_wp2_with (go_at_call 59; fail)
 refine HF.out.mono ?_
 rintro e w1 ⟨rfl, hb⟩
 have HB1 : Hid (Below w.heap.size w w1) := hb
 clear hb
 go_wp2_with (go_at_call 94; fail)
 obtain ⟨W, hW⟩ : ∃ W, W = (w1.alloc (.cells #[.int .i64 ((hd l).k : Int), .string y, .int .i64 ((hd l).p : Int)] 136)).alloc (.cells #[.int .i64 0, .int .i64 ((hd l).p : Int), .int .i64 0, .string ⟨#[]⟩, .string ⟨#[]⟩, .pointer none, .pointer none, .slice none 0 0] 252) := ⟨_, rfl⟩
 obtain ⟨q, hq⟩ : ∃ q, q = w1.heap.size + 1 := ⟨_, rfl⟩
 have HXW : Hid (W.heap[q]? = some (.cells #[.int .i64 0, .int .i64 ((hd l).p : Int), .int .i64 0, .string ⟨#[]⟩, .string ⟨#[]⟩, .pointer none, .pointer none, .slice none 0 0] 252)) := by
  show _ = _
  rw [hW, hq]
  have := heap_alloc_last (w1.alloc (.cells #[.int .i64 ((hd l).k : Int), .string y, .int .i64 ((hd l).p : Int)] 136)) (.cells #[.int .i64 0, .int .i64 ((hd l).p : Int), .int .i64 0, .string ⟨#[]⟩, .string ⟨#[]⟩, .pointer none, .pointer none, .slice none 0 0] 252)
  simpa using this
 have HQ : Hid (w.heap.size ≤ q ∧ P < q ∧ T < q) := by
  show _ ∧ _
  have := HB1.out.size
  have := HA.out.ltP
  have := HA.out.ltT
  omega
 have HBW : Hid (Below w.heap.size w W) := by
  show Below _ _ _
  rw [hW]
  exact (HB1.out.alloc HB1.out.size _).alloc (by simp; have := HB1.out.size; omega) _
 rw [← hW, ← hq]
 clear hW hq HB1
 have hA0 := HA.out.below HBW.out
 refine (qW hA0 ⟨#[110, 101, 119]⟩ (by decide)).mono ?_
 rintro e w2 (⟨hv, rfl, hp, hg, he, hlt⟩ | ⟨hv, rfl, hb⟩)
 ·have HX4 : Hid (w2.heap[q]? = some (.cells #[.int .i64 0, .int .i64 ((hd l).p : Int), .int .i64 0, .string ⟨#[]⟩, .string ⟨#[]⟩, .pointer none, .pointer none, .slice none 0 0] 252)) := hg.blk HXW.out (by have := HQ.out; omega)
  have HG4 : Hid (Gr P w w2) := (zd HBW.out).trans hg
  have HA4 : Hid (At w2 P T (o + 3) (c - 1) d l.tail) := HA.out.go HG4.out hp he (by have := HA.out.deep; omega)
  have HYes : Hid ((hd l).t = [110, 101, 119]) := hv
  have HL4 : Hid (12 * l.tail.length ≤ n) := by show _ ≤ _; have := HN.out; omega
  clear hA0 hv hp hg he hlt HXW HBW
  go_wp2_with (go_at_call 207; fail)
  refine (HIH.out d w2 P T _ _ l.tail HA4.out HL4.out).mono ?_
  intro e w5 hpost
  rcases hpost.parts with ⟨t, l', v, o', c', hr, rfl, hx5, hp5, hg5⟩ | ⟨k, p, hr, ⟨a, rfl, ha⟩, hg5⟩
  rotate_left
  ·refine ⟨rfl, HG0.out _ _ ?_⟩
   rw [HM.out, if_pos HYes.out, hr]
   exact ⟨⟨a, rfl, ha⟩, HG4.out.trans hg5⟩
  obtain ⟨vb, rfl⟩ := IsNd.ptr (zw n 5 0 d .nil 0 l.tail t l' (by omega) (by omega) hr) hx5
  have hx5q := hg5.blk HX4.out (by have := HQ.out; omega)
  have f0 := zb hx5q 0
  have f5 := zb hx5q 5
  have c0 := z_ (i := 0) hx5q rfl
  have c5 := z_ (i := 5) hx5q rfl
  have HX5 : Hid (w5.heap[q]? = some (.cells #[.int .i64 0, .int .i64 ((hd l).p : Int), .int .i64 0, .string ⟨#[]⟩, .string ⟨#[]⟩, .pointer none, .pointer none, .slice none 0 0] 252)) := hx5q
  have HP5 : Hid (PS w5 P T o' c' l') := hp5
  have HG5 : Hid (Gr P w w5) := HG4.out.trans hg5
  have HT5 : Hid (ExAt (Fr w2.heap.size) w5 t (.pointer (some ⟨vb, 0, none⟩))) := hx5
  have HR : Hid (exV n 5 0 d .nil 0 l.tail = .ok (t, l')) := hr
  have HQ4 : Hid (q < w2.heap.size) := (Array.getElem?_eq_some_iff.1 HX4.out).1
  clear hpost hr hx5 hp5 hg5 hx5q HX4
  go_wp2
  refine HG0.out _ _ ?_
  rw [HM.out, if_pos HYes.out, HR.out]
  have hk2 : ∀ (b : Nat) (cs : Array Value) (t : TypeId), Fr w2.heap.size b → t = 252 ∨ t = 145 → w5.heap[b]? = some (.cells cs t) → ((w5.setCell ⟨q, 0, none⟩ (.int .i64 6)).setCell ⟨q, 5, none⟩ (.pointer (some ⟨vb, 0, none⟩))).heap[b]? = some (.cells cs t) := fun b cs t hb ht h => set_keeps HQ4.out b cs t hb ht (set_keeps HQ4.out b cs t hb ht h)
  refine ⟨⟨_, o', c', rfl, node_at (b := q) HQ.out.1 (heap_setCell_same _ _ _ _ _ _ (heap_setCell_same _ _ _ _ _ _ HX5.out)) ((ExAt.kept hk2 _ _ HT5.out).old HG4.out.size) (qo _ _), (HP5.out.set HQ.out.2.1 HQ.out.2.2).set HQ.out.2.1 HQ.out.2.2⟩, (HG5.out.set HQ.out.1).set HQ.out.1⟩
 have HXw2 : Hid (w2.heap[q]? = some (.cells #[.int .i64 0, .int .i64 ((hd l).p : Int), .int .i64 0, .string ⟨#[]⟩, .string ⟨#[]⟩, .pointer none, .pointer none, .slice none 0 0] 252)) := (zd (P := P) hb).blk HXW.out (by have := HQ.out; omega)
 have HBw2 : Hid (Below w.heap.size w w2) := HBW.out.trans (hb.mono HBW.out.size)
 have HNo0 : Hid (¬ (hd l).t = [110, 101, 119]) := hv
 clear hA0 hv hb HXW HBW
 go_wp2_with (go_at_call 94; fail)
 have hA1 := HA.out.below HBw2.out
 refine (qW hA1 ⟨#[108, 101, 110]⟩ (by decide)).mono ?_
 rintro e w3 (⟨hv, rfl, hp, hg, he, hlt⟩ | ⟨hv, rfl, hb⟩)
 ·have HX4 : Hid (w3.heap[q]? = some (.cells #[.int .i64 0, .int .i64 ((hd l).p : Int), .int .i64 0, .string ⟨#[]⟩, .string ⟨#[]⟩, .pointer none, .pointer none, .slice none 0 0] 252)) := hg.blk HXw2.out (by have := HQ.out; omega)
  have HG4 : Hid (Gr P w w3) := (zd HBw2.out).trans hg
  have HA4 : Hid (At w3 P T (o + 3) (c - 1) d l.tail) := HA.out.go HG4.out hp he (by have := HA.out.deep; omega)
  have HYes : Hid ((hd l).t = [108, 101, 110]) := hv
  have HL4 : Hid (12 * l.tail.length ≤ n) := by show _ ≤ _; have := HN.out; omega
  clear hA1 hv hp hg he hlt HXw2 HBw2
  go_wp2_with (go_at_call 207; fail)
  refine (HIH.out d w3 P T _ _ l.tail HA4.out HL4.out).mono ?_
  intro e w5 hpost
  rcases hpost.parts with ⟨t, l', v, o', c', hr, rfl, hx5, hp5, hg5⟩ | ⟨k, p, hr, ⟨a, rfl, ha⟩, hg5⟩
  rotate_left
  ·refine ⟨rfl, HG0.out _ _ ?_⟩
   rw [HM.out, if_neg HNo0.out, if_pos HYes.out, hr]
   exact ⟨⟨a, rfl, ha⟩, HG4.out.trans hg5⟩
  obtain ⟨vb, rfl⟩ := IsNd.ptr (zw n 5 0 d .nil 0 l.tail t l' (by omega) (by omega) hr) hx5
  have hx5q := hg5.blk HX4.out (by have := HQ.out; omega)
  have f0 := zb hx5q 0
  have f5 := zb hx5q 5
  have c0 := z_ (i := 0) hx5q rfl
  have c5 := z_ (i := 5) hx5q rfl
  have HX5 : Hid (w5.heap[q]? = some (.cells #[.int .i64 0, .int .i64 ((hd l).p : Int), .int .i64 0, .string ⟨#[]⟩, .string ⟨#[]⟩, .pointer none, .pointer none, .slice none 0 0] 252)) := hx5q
  have HP5 : Hid (PS w5 P T o' c' l') := hp5
  have HG5 : Hid (Gr P w w5) := HG4.out.trans hg5
  have HT5 : Hid (ExAt (Fr w3.heap.size) w5 t (.pointer (some ⟨vb, 0, none⟩))) := hx5
  have HR : Hid (exV n 5 0 d .nil 0 l.tail = .ok (t, l')) := hr
  have HQ4 : Hid (q < w3.heap.size) := (Array.getElem?_eq_some_iff.1 HX4.out).1
  clear hpost hr hx5 hp5 hg5 hx5q HX4
  go_wp2
  refine HG0.out _ _ ?_
  rw [HM.out, if_neg HNo0.out, if_pos HYes.out, HR.out]
  have hk2 : ∀ (b : Nat) (cs : Array Value) (t : TypeId), Fr w3.heap.size b → t = 252 ∨ t = 145 → w5.heap[b]? = some (.cells cs t) → ((w5.setCell ⟨q, 0, none⟩ (.int .i64 7)).setCell ⟨q, 5, none⟩ (.pointer (some ⟨vb, 0, none⟩))).heap[b]? = some (.cells cs t) := fun b cs t hb ht h => set_keeps HQ4.out b cs t hb ht (set_keeps HQ4.out b cs t hb ht h)
  refine ⟨⟨_, o', c', rfl, node_at (b := q) HQ.out.1 (heap_setCell_same _ _ _ _ _ _ (heap_setCell_same _ _ _ _ _ _ HX5.out)) ((ExAt.kept hk2 _ _ HT5.out).old HG4.out.size) (qo _ _), (HP5.out.set HQ.out.2.1 HQ.out.2.2).set HQ.out.2.1 HQ.out.2.2⟩, (HG5.out.set HQ.out.1).set HQ.out.1⟩
 have HXw3 : Hid (w3.heap[q]? = some (.cells #[.int .i64 0, .int .i64 ((hd l).p : Int), .int .i64 0, .string ⟨#[]⟩, .string ⟨#[]⟩, .pointer none, .pointer none, .slice none 0 0] 252)) := (zd (P := P) hb).blk HXw2.out (by have := HQ.out; omega)
 have HBw3 : Hid (Below w.heap.size w w3) := HBw2.out.trans (hb.mono HBw2.out.size)
 have HNo1 : Hid (¬ (hd l).t = [108, 101, 110]) := hv
 clear hA1 hv hb HXw2 HBw2
 go_wp2_with (go_at_call 94; fail)
 have hA2 := HA.out.below HBw3.out
 refine (qW hA2 ⟨#[105, 110, 112, 117, 116]⟩ (by decide)).mono ?_
 rintro e w4 (⟨hv, rfl, hp, hg, he, hlt⟩ | ⟨hv, rfl, hb⟩)
 ·have hx4 := hg.blk HXw3.out (by have := HQ.out; omega)
  have f0 := zb hx4 0
  have c0 := z_ (i := 0) hx4 rfl
  have HX4 : Hid (w4.heap[q]? = some (.cells #[.int .i64 0, .int .i64 ((hd l).p : Int), .int .i64 0, .string ⟨#[]⟩, .string ⟨#[]⟩, .pointer none, .pointer none, .slice none 0 0] 252)) := hx4
  have HG4 : Hid (Gr P w w4) := (zd HBw3.out).trans hg
  have HP4 : Hid (PS w4 P T (o + 3) (c - 1) l.tail) := hp
  have HE4 : Hid (Ends l.tail) := he
  have HL4 : Hid (l.tail.length < l.length) := hlt
  have HYes : Hid ((hd l).t = [105, 110, 112, 117, 116]) := hv
  clear hA2 hx4 hv hp hg he hlt HXw3 HBw3
  go_wp2_with (go_at_call 92; fail)
  obtain ⟨W5, hW5⟩ : ∃ W5, W5 = w4.setCell ⟨q, 0, none⟩ (.int .i64 9) := ⟨_, rfl⟩
  have HX5 : Hid (W5.heap[q]? = some (.cells #[.int .i64 9, .int .i64 ((hd l).p : Int), .int .i64 0, .string ⟨#[]⟩, .string ⟨#[]⟩, .pointer none, .pointer none, .slice none 0 0] 252)) := by
   show _ = _
   rw [hW5]
   exact heap_setCell_same _ _ _ _ _ _ HX4.out
  have HP5 : Hid (PS W5 P T (o + 3) (c - 1) l.tail) := by
   show PS _ _ _ _ _ _
   rw [hW5]
   exact HP4.out.set HQ.out.2.1 HQ.out.2.2
  have HG5 : Hid (Gr P w W5) := by
   show Gr _ _ _
   rw [hW5]
   exact HG4.out.set HQ.out.1
  rw [← hW5]
  clear hW5 HX4 HP4 HG4 f0 c0
  have hA5 : At W5 P T (o + 3) (c - 1) d l.tail := HA.out.go HG5.out HP5.out HE4.out (by have := HA.out.deep; have := HL4.out; omega)
  refine (nee_at hA5 ⟨#[40]⟩ (by decide)).mono ?_
  rintro e w6 (⟨hv, rfl, hp, hg, he, hlt⟩ | ⟨hv, ⟨a, rfl, ha⟩, hg⟩)
  rotate_left
  ·refine ⟨rfl, HG0.out _ _ ?_⟩
   rw [HM.out, if_neg HNo0.out, if_neg HNo1.out, if_pos HYes.out]
   have hv' : zf [40] l.tail = _ := hv
   rw [hv']
   exact ⟨⟨a, rfl, ha⟩, HG5.out.trans hg⟩
  have HX6 : Hid (w6.heap[q]? = some (.cells #[.int .i64 9, .int .i64 ((hd l).p : Int), .int .i64 0, .string ⟨#[]⟩, .string ⟨#[]⟩, .pointer none, .pointer none, .slice none 0 0] 252)) := hg.blk HX5.out (by have := HQ.out; omega)
  have HG6 : Hid (Gr P w w6) := HG5.out.trans hg
  have HA6 : Hid (At w6 P T (o + 3 + 3) (c - 1 - 1) d l.tail.tail) := HA.out.go HG6.out hp he (by have := HA.out.deep; have := HL4.out; omega)
  have HV6 : Hid (zf [40] l.tail = .ok ((), l.tail.tail)) := hv
  clear hA5 hv hp hg he hlt HX5 HP5 HG5
  go_wp2_with (go_at_call 92; fail)
  refine (nee_at HA6.out ⟨#[41]⟩ (by decide)).mono ?_
  rintro e w7 (⟨hv, rfl, hp, hg, he, hlt⟩ | ⟨hv, ⟨a, rfl, ha⟩, hg⟩)
  rotate_left
  ·refine ⟨rfl, HG0.out _ _ ?_⟩
   rw [HM.out, if_neg HNo0.out, if_neg HNo1.out, if_pos HYes.out, HV6.out]
   have hv' : zf [41] l.tail.tail = _ := hv
   show ExPost w P T (bnd (zf [41] l.tail.tail) _) _ _
   rw [hv']
   exact ⟨⟨a, rfl, ha⟩, HG6.out.trans hg⟩
  have HX7 : Hid (w7.heap[q]? = some (.cells #[.int .i64 9, .int .i64 ((hd l).p : Int), .int .i64 0, .string ⟨#[]⟩, .string ⟨#[]⟩, .pointer none, .pointer none, .slice none 0 0] 252)) := hg.blk HX6.out (by have := HQ.out; omega)
  have HG7 : Hid (Gr P w w7) := HG6.out.trans hg
  have HP7 : Hid (PS w7 P T (o + 3 + 3 + 3) (c - 1 - 1 - 1) l.tail.tail.tail) := hp
  have HV7 : Hid (zf [41] l.tail.tail = .ok ((), l.tail.tail.tail)) := hv
  clear hv hp hg he hlt HX6 HG6 HA6
  go_wp2
  refine HG0.out _ _ ?_
  rw [HM.out, if_neg HNo0.out, if_neg HNo1.out, if_pos HYes.out, HV6.out]
  show ExPost w P T (bnd (zf [41] l.tail.tail) _) _ _
  rw [HV7.out]
  exact ⟨⟨_, _, _, rfl, node_at (b := q) HQ.out.1 HX7.out (qo _ _) (qo _ _), HP7.out⟩, HG7.out⟩
 have HBw4 : Hid (Below w.heap.size w w4) := HBw3.out.trans (hb.mono HBw3.out.size)
 have HNo2 : Hid (¬ (hd l).t = [105, 110, 112, 117, 116]) := hv
 clear hA2 hv hb HXw3 HBw3
 go_wp2_with (go_at_call 207; fail)
 refine (HIH.out d w4 P T _ _ l (HA.out.below HBw4.out) (by have := HN.out; omega)).mono ?_
 intro e w5 hpost
 have hfin : ExPost w P T (exV (n + 1) 4 0 d .nil 0 l) e w5 := by
  rw [HM.out, if_neg HNo0.out, if_neg HNo1.out, if_neg HNo2.out]
  exact ExPost.back (zd HBw4.out) hpost
 rcases hpost.parts with ⟨t, l', v, o', c', hr, rfl, hx5, hp5, hg5⟩ | ⟨k, p, hr, ⟨a, rfl, ha⟩, hg5⟩
 rotate_left
 ·exact ⟨rfl, HG0.out _ _ hfin⟩
 have HFin : Hid (ExPost w P T (exV (n + 1) 4 0 d .nil 0 l) (.returned v) w5) := hfin
 clear hpost hfin hr hx5 hp5 hg5
 go_wp2
 exact HG0.out _ _ HFin.out
theorem pass_at2 {w : World} {P T o c d : Nat} {l : List Tok} (h : At w P T o c d l) (x : ByteArray) (hx : (hd l).t ≠ x.data.toList) (W : World) (hb : Below w.heap.size w W) :
  Calls Tryz.prog 94 #[.pointer (some ⟨P, 0, none⟩), .string x] W fun e w' => e = .returned (.bool false) ∧ Below w.heap.size w w' ∧ Gr P W w' := by
 have hp' : PS W P T o c (hd l :: l.tail) := by rw [← h.ends.cons]; exact h.ps.below hb
 exact (accept_no W P T o c (hd l) l.tail hp' x hx).mono fun e w' ⟨a, b⟩ => ⟨a, hb.trans (b.mono hb.size), zd b⟩
theorem one_not (n : Nat) (IH : OneC n) (d : Nat) (w : World) (P T o c : Nat) (l : List Tok) (h : At w P T o c d l) (hk : d ≤ 12 ∨ (hd l).k = 3) (hn : 12 * l.length + 2 ≤ n + 1) (x : ByteArray) (hx : (hd l).t = x.data.toList) (hxx : x = ⟨#[33]⟩) :
  Calls Tryz.prog 247 #[.pointer (some ⟨P, 0, none⟩), .int .i64 (d : Int)] w (ExPost w P T (exV (n + 1) 2 0 d .nil 0 l)) := by
 have hy : str (hd l).t = .string x := by rw [hx]
 have HF : Hid (∀ W, Below w.heap.size w W → Calls Tryz.prog 59 #[.pointer (some ⟨P, 0, none⟩)] W fun e w' => e = .returned (.agg #[.int .i64 ((hd l).k : Int), .string x, .int .i64 ((hd l).p : Int)]) ∧ Below w.heap.size w w') := fun W hb => look_at h x hy W hb
 have HB : Hid (Calls Tryz.prog 148 #[.pointer (some ⟨P, 0, none⟩), .int .i64 (d : Int)] w fun e w' => e = .returned (.tuple #[]) ∧ Below w.heap.size w w') := bound_at h hk
 have HT : Hid (∀ W, Below w.heap.size w W → Calls Tryz.prog 94 #[.pointer (some ⟨P, 0, none⟩), .string ⟨#[33]⟩] W fun e w' => e = .returned (.bool true) ∧ PS w' P T (o + 3) (c - 1) l.tail ∧ Gr P w w' ∧ Gr P W w') := fun W hb => take_at2 h ⟨#[33]⟩ (by rw [hx, hxx]) (by decide) W hb
 have HNo : Hid (∀ W, Below w.heap.size w W → Calls Tryz.prog 94 #[.pointer (some ⟨P, 0, none⟩), .string ⟨#[45]⟩] W fun e w' => e = .returned (.bool false) ∧ Below w.heap.size w w' ∧ Gr P W w') := fun W hb => pass_at2 h ⟨#[45]⟩ (by rw [hx, hxx]; decide) W hb
 obtain ⟨e1, e2, e3, e4⟩ := h.ends.tail (by rw [hx, hxx]; decide)
 have hdd := h.deep
 have HO : Hid (∀ W, PS W P T (o + 3) (c - 1) l.tail → Gr P w W → Calls Tryz.prog 247 #[.pointer (some ⟨P, 0, none⟩), .int .i64 (IntKind.i64.wrap ((d : Int) + 1))] W (ExPost W P T (exV n 2 0 (d + 1) .nil 0 l.tail))) := fun W hp hg => by
  have := IH (d + 1) W P T (o + 3) (c - 1) l.tail ⟨h.env.gr hg h.far, hp, e1, h.far, by omega⟩ (by omega)
  rw [show ((d + 1 : Nat) : Int) = IntKind.i64.wrap ((d : Int) + 1) by rw [i64_same (by omega) (by omega)]; omega] at this
  exact this
 have hM : exV (n + 1) 2 0 d .nil 0 l = bnd (exV n 2 0 (d + 1) .nil 0 l.tail) fun y l1 => .ok (nd 4 (hd l).p 0 [] (hd l).t y .nil ce, l1) := by
  rw [exV]
  unfold qU
  rw [if_neg (by omega)]
  show (if (hd l).t = [45] ∨ (hd l).t = [33] then _ else _) = _
  rw [if_pos (by right; rw [hx, hxx])]
 have hd2 : d ≤ 100000 := by omega
 have HPl : Hid (P < w.heap.size) := (Array.getElem?_eq_some_iff.1 h.ps.own).1
 have HPok : Hid (∀ t l' e w', exV n 2 0 (d + 1) .nil 0 l.tail = .ok (t, l') → (∃ v o' c', e = .returned v ∧ ExAt (Fr w.heap.size) w' (nd 4 (hd l).p 0 [] (hd l).t t .nil ce) v ∧ PS w' P T o' c' l') → Gr P w w' → ExPost w P T (exV (n + 1) 2 0 d .nil 0 l) e w') := fun t l' e w' h1 h2 h3 => by
  rw [hM, h1]
  exact ⟨h2, h3⟩
 have HPer : Hid (∀ k p e w', exV n 2 0 (d + 1) .nil 0 l.tail = .error (k, p) → zH k p e w' → Gr P w w' → ExPost w P T (exV (n + 1) 2 0 d .nil 0 l) e w') := fun k p e w' h1 h2 h3 => by
  rw [hM, h1]
  exact ⟨h2, h3⟩
 have HXT : Hid ((hd l).t = x.data.toList) := hx
 clear h hk hn hx hxx hy e1 e2 e3 e4 hdd hM IH
 go_enter Tryz.func247, Tryz.ntmps247
 go_wp2_with (go_at_call 148; fail)
 refine HB.out.mono ?_
 rintro e w1 ⟨rfl, hb⟩
 have HB1 : Hid (Below w.heap.size w w1) := hb
 clear hb
 go_wp2_with (go_at_call 59; fail)
 refine (HF.out _ HB1.out).mono ?_
 rintro e w2 ⟨rfl, hb⟩
 have HB2 : Hid (Below w.heap.size w w2) := hb
 clear hb
 go_wp2_with (go_at_call 94; fail)
 obtain ⟨W2, hW2⟩ : ∃ W2, W2 = w2.alloc (.cells #[.int .i64 ((hd l).k : Int), .string x, .int .i64 ((hd l).p : Int)] 136) := ⟨_, rfl⟩
 obtain ⟨q, hq⟩ : ∃ q, q = w2.heap.size := ⟨_, rfl⟩
 have HQ2 : Hid (W2.heap[q]? = some (.cells #[.int .i64 ((hd l).k : Int), .string x, .int .i64 ((hd l).p : Int)] 136)) := by rw [hW2, hq]; exact heap_alloc_last _ _
 have HNE : Hid (q ≠ P) := fun e => by have := HB2.out.size; have := HPl.out; omega
 have HB3 : Hid (Below w.heap.size w W2) := by rw [hW2]; exact HB2.out.alloc HB2.out.size _
 rw [← hW2, ← hq]
 clear hW2 hq HB2
 refine (HNo.out _ HB3.out).mono ?_
 rintro e W3 ⟨rfl, hb, hg⟩
 have HQ2b : Hid (W3.heap[q]? = some (.cells #[.int .i64 ((hd l).k : Int), .string x, .int .i64 ((hd l).p : Int)] 136)) := hg.blk HQ2.out HNE.out
 have HB4 : Hid (Below w.heap.size w W3) := hb
 clear hb hg HQ2 HB3
 go_wp2_with (go_at_call 94; fail)
 refine (HT.out _ HB4.out).mono ?_
 rintro e w3 ⟨rfl, hp, hg, hg'⟩
 have HQ3 : Hid (w3.drew.heap[q]? = some (.cells #[.int .i64 ((hd l).k : Int), .string x, .int .i64 ((hd l).p : Int)] 136)) := hg'.blk HQ2b.out HNE.out
 have HP3d : Hid (PS w3.drew P T (o + 3) (c - 1) l.tail) := hp.below (Below.refl _ _).drew
 have HG3d : Hid (Gr P w w3.drew) := hg.trans (zd (Below.refl _ _).drew)
 have hc1 : w3.cell? ⟨q, 1, none⟩ = some (.string x) := by have := hg'.blk HQ2b.out HNE.out; simp [World.cell?, this]
 have hc2 : w3.cell? ⟨q, 2, none⟩ = some (.int .i64 ((hd l).p : Int)) := by have := hg'.blk HQ2b.out HNE.out; simp [World.cell?, this]
 clear hp hg hg'
 go_wp2_with fail
 go_region_with (go_at_call 247; refine (HO.out _ HP3d.out HG3d.out).mono ?_; intro e w4 hpost; rcases hpost.parts with ⟨t, l', v, o', c', hr, rfl, hx4, hp4, hg5⟩ | ⟨k, p, hr, ⟨a, rfl, ha⟩, hg5⟩; rotate_left; exact ⟨rfl, HPer.out k p _ _ hr ⟨a, rfl, ha⟩ (HG3d.out.trans hg5)⟩; obtain ⟨vb, rfl⟩ := IsNd.ptr (zw n 2 0 (d + 1) .nil 0 l.tail t l' (by omega) (by omega) hr) hx4; have HR : Hid (exV n 2 0 (d + 1) .nil 0 l.tail = .ok (t, l')) := hr; have hQ4 : w4.heap[q]? = some (.cells #[.int .i64 ((hd l).k : Int), .string x, .int .i64 ((hd l).p : Int)] 136) := hg5.blk HQ3.out HNE.out; have HX4 : Hid (ExAt (Fr w.heap.size) w4 t (.pointer (some ⟨vb, 0, none⟩))) := hx4.old HG3d.out.size; have HP4 : Hid (PS w4 P T o' c' l') := hp4; have HG4 : Hid (Gr P w w4) := HG3d.out.trans hg5; have hc3 : w4.cell? ⟨q, 1, none⟩ = some (.string x) := (by simp [World.cell?, hQ4]); have hc4 : w4.cell? ⟨q, 2, none⟩ = some (.int .i64 ((hd l).p : Int)) := (by simp [World.cell?, hQ4]); clear hx4 hp4 hg5 hQ4 hpost hr)
 all_goals
  go_wp2
  go_ret
  exact HPok.out t l' _ _ HR.out ⟨_, o', c', rfl, un_new HXT.out HG4.out.size HX4.out, HP4.out.below ((Below.refl _ _).alloc (Nat.le_refl _) _)⟩ (HG4.out.alloc _)
def LeafC (n : Nat) : Prop := ∀ (d : Nat) (w : World) (P T o c : Nat) (l : List Tok), At w P T o c d l → 12 * l.length + 1 ≤ n → Calls Tryz.prog 256 #[.pointer (some ⟨P, 0, none⟩), .int .i64 (d : Int)] w (ExPost w P T (exV n 4 0 d .nil 0 l))
def IdxC (n : Nat) : Prop := ∀ m, m ≤ n → ∀ (d : Nat) (w : World) (P T o c : Nat) (l : List Tok), At w P T o c (d + 1) l → 12 * l.length + 10 ≤ m → Calls Tryz.prog 234 #[.pointer (some ⟨P, 0, none⟩), .int .i64 (d : Int)] w (ExPost w P T (exV m 6 0 d .nil 0 l))
def plen (P : Nat) (w : World) : Nat :=
 match w.cell? ⟨P, 0, none⟩ with
 | some (.slice _ n _) => n
 | _ => 0
theorem PS.plen {w : World} {P T o c : Nat} {l : List Tok} (h : PS w P T o c l) : plen P w = l.length := by
 unfold Go.Proofs.YtnfhpdbbfejioaaGreatDoor.plen
 rw [z_ (i := 0) h.own rfl]
 rfl
structure OneI (n d : Nat) (w : World) (P T q : Nat) (p : Nat) (l : List Tok) (M : R Tr) (tc : Array Value) (v : Value) (wr : World) : Prop where
 at' : ∃ f t lc o' c', exV f 3 0 d t p lc = M ∧ 12 * lc.length ≤ f ∧ f ≤ n ∧ IsNd t ∧ ExAt (Fr w.heap.size) wr t v ∧ PS wr P T o' c' lc ∧ Ends lc ∧ lc.length ≤ l.length
 tok : wr.heap[q]? = some (.cells tc 136)
 gr : Gr P w wr
theorem item_new {S : Nat → Prop} {w : World} {p : Int} {t u : Tr} {v z : Value} (hs : S w.heap.size) (h : ExAt S w t v) (g : ExAt S w u z) : ExAt S (w.alloc (.cells #[.int .i64 8, .int .i64 p, .int .i64 0, .string ⟨#[]⟩, .string ⟨#[]⟩, v, z, .slice none 0 0] 252)) (nd 8 p 0 [] [] t u ce) (.pointer (some ⟨w.heap.size, 0, none⟩)) := node_new hs h g
theorem one_leaf (n : Nat) (IL : LeafC n) (II : IdxC n) (d : Nat) (w : World) (P T o c : Nat) (l : List Tok) (h : At w P T o c d l) (hk : d ≤ 12 ∨ (hd l).k = 3) (hn : 12 * l.length + 2 ≤ n + 1) (h1 : (hd l).t ≠ [45]) (h2 : (hd l).t ≠ [33]) :
  Calls Tryz.prog 247 #[.pointer (some ⟨P, 0, none⟩), .int .i64 (d : Int)] w (ExPost w P T (exV (n + 1) 2 0 d .nil 0 l)) := by
 obtain ⟨y, hy, hyt⟩ := zt (hd l).t
 have HF : Hid (∀ W, Below w.heap.size w W → Calls Tryz.prog 59 #[.pointer (some ⟨P, 0, none⟩)] W fun e w' => e = .returned (.agg #[.int .i64 ((hd l).k : Int), .string y, .int .i64 ((hd l).p : Int)]) ∧ Below w.heap.size w w') := fun W hb => look_at h y hy W hb
 have HB : Hid (Calls Tryz.prog 148 #[.pointer (some ⟨P, 0, none⟩), .int .i64 (d : Int)] w fun e w' => e = .returned (.tuple #[]) ∧ Below w.heap.size w w') := bound_at h hk
 have HNo1 : Hid (∀ W, Below w.heap.size w W → Calls Tryz.prog 94 #[.pointer (some ⟨P, 0, none⟩), .string ⟨#[45]⟩] W fun e w' => e = .returned (.bool false) ∧ Below w.heap.size w w' ∧ Gr P W w') := fun W hb => pass_at2 h ⟨#[45]⟩ h1 W hb
 have HNo2 : Hid (∀ W, Below w.heap.size w W → Calls Tryz.prog 94 #[.pointer (some ⟨P, 0, none⟩), .string ⟨#[33]⟩] W fun e w' => e = .returned (.bool false) ∧ Below w.heap.size w w' ∧ Gr P W w') := fun W hb => pass_at2 h ⟨#[33]⟩ h2 W hb
 have HA : Hid (At w P T o c d l) := h
 have HN : Hid (12 * l.length + 2 ≤ n + 1) := hn
 have HIL : Hid (LeafC n) := IL
 have HII : Hid (IdxC n) := II
 have HM : Hid (exV (n + 1) 2 0 d .nil 0 l = bnd (exV n 4 0 d .nil 0 l) fun y l1 => exV n 3 0 d y (hd l).p l1) := by
  show _ = _
  rw [exV]
  unfold qU
  rw [if_neg (by omega)]
  show (if (hd l).t = [45] ∨ (hd l).t = [33] then _ else _) = _
  rw [if_neg (fun e => e.elim h1 h2)]
 have HG0 : Hid (∀ e w', ExPost w P T (exV (n + 1) 2 0 d .nil 0 l) e w' → ExPost w P T (exV (n + 1) 2 0 d .nil 0 l) e w') := fun _ _ h => h
 generalize hG : ExPost w P T (exV (n + 1) 2 0 d .nil 0 l) = G at *
 clear HG0
 have HG0 : Hid (∀ e w', ExPost w P T (exV (n + 1) 2 0 d .nil 0 l) e w' → G e w') := fun e w' h => by rw [← hG]; exact h
 clear h hk hn hy hyt h1 h2 IL II hG
 go_enter Tryz.func247, Tryz.ntmps247
 go_wp2_with (go_at_call 148; fail)
 refine HB.out.mono ?_
 rintro e w1 ⟨rfl, hb⟩
 have HB1 : Hid (Below w.heap.size w w1) := hb
 clear hb
 go_wp2_with (go_at_call 59; fail)
 refine (HF.out _ HB1.out).mono ?_
 rintro e w2 ⟨rfl, hb⟩
 have HB2 : Hid (Below w.heap.size w w2) := hb
 clear hb
 go_wp2_with (go_at_call 94; fail)
 obtain ⟨tc, htc⟩ : ∃ tc : Array Value, tc = #[.int .i64 ((hd l).k : Int), .string y, .int .i64 ((hd l).p : Int)] := ⟨_, rfl⟩
 have HTC : Hid (tc[2]? = some (.int .i64 ((hd l).p : Int))) := by show _ = _; rw [htc]; rfl
 obtain ⟨W2, hW2⟩ : ∃ W2, W2 = w2.alloc (.cells #[.int .i64 ((hd l).k : Int), .string y, .int .i64 ((hd l).p : Int)] 136) := ⟨_, rfl⟩
 obtain ⟨q, hq⟩ : ∃ q, q = w2.heap.size := ⟨_, rfl⟩
 have HQ2 : Hid (W2.heap[q]? = some (.cells tc 136)) := by rw [hW2, hq, htc]; exact heap_alloc_last _ _
 have HNE : Hid (q ≠ P) := fun e => by have := HB2.out.size; have := HA.out.ltP; omega
 have HB3 : Hid (Below w.heap.size w W2) := by rw [hW2]; exact HB2.out.alloc HB2.out.size _
 rw [← hW2, ← hq]
 clear hW2 hq HB2 htc
 refine (HNo1.out _ HB3.out).mono ?_
 rintro e W3 ⟨rfl, hb, hg⟩
 have HQ3 : Hid (W3.heap[q]? = some (.cells tc 136)) := hg.blk HQ2.out HNE.out
 have HB4 : Hid (Below w.heap.size w W3) := hb
 clear hb hg HQ2 HB3
 go_wp2_with (go_at_call 94; fail)
 refine (HNo2.out _ HB4.out).mono ?_
 rintro e W4 ⟨rfl, hb, hg⟩
 have HQ4 : Hid (W4.heap[q]? = some (.cells tc 136)) := hg.blk HQ3.out HNE.out
 have HB5 : Hid (Below w.heap.size w W4) := hb
 clear hb hg HQ3 HB4
 go_wp2_with (go_at_call 256; fail)
 refine (HIL.out d W4 P T _ _ l (HA.out.below HB5.out) (by have := HN.out; omega)).mono ?_
 intro e w5 hpost
 rcases hpost.parts with ⟨t, l', v, o', c', hr, rfl, hx5, hp5, hg5⟩ | ⟨k, p, hr, ⟨a, rfl, ha⟩, hg5⟩
 rotate_left
 ·refine ⟨rfl, HG0.out _ _ ?_⟩
  rw [HM.out, hr]
  exact ⟨⟨a, rfl, ha⟩, (zd HB5.out).trans hg5⟩
 have hnd := zw n 4 0 d .nil 0 l t l' (by omega) (by omega) hr
 obtain ⟨vb, rfl⟩ := IsNd.ptr hnd hx5
 obtain ⟨M, hMM⟩ : ∃ M, M = exV n 3 0 d t (hd l).p l' := ⟨_, rfl⟩
 obtain ⟨he5, hl5, _⟩ := zq n 4 0 d .nil 0 l t l' (fun h => by omega) HA.out.ends hr
 have HI0 : Hid (OneI n d w P T q (hd l).p l M tc (.pointer (some ⟨vb, 0, none⟩)) w5) :=
  ⟨⟨n, t, l', o', c', hMM.symm, by have := HN.out; omega, Nat.le_refl _, hnd, hx5.old HB5.out.size, hp5, he5, hl5⟩, hg5.blk HQ4.out HNE.out, (zd HB5.out).trans hg5⟩
 have HMM : Hid (exV (n + 1) 2 0 d .nil 0 l = M) := by
  show _ = _
  rw [HM.out, hr, hMM]
  rfl
 clear hpost hr hx5 hp5 hg5 hMM he5 hl5 hnd HQ4 HB5 HM
 go_wp2_with fail
 go_loopw [6] (fun v wr => ∃ vb : Nat, v = .pointer (some ⟨vb, 0, none⟩) ∧ Hid (OneI n d w P T q (hd l).p l M tc (.pointer (some ⟨vb, 0, none⟩)) wr)) (fun _ wr => plen P wr)
 case atStart => exact ⟨vb, rfl, HI0.out⟩
 case round =>
  obtain ⟨b0, rfl, HI⟩ := hrel
  obtain ⟨⟨f, t0, lc, o0, c0, hM0, hf1, hf2, hnd0, hx0, hp0, he0, hl0⟩, htok, hgr⟩ := HI.out
  obtain ⟨f, rfl⟩ : ∃ f', f = f' + 1 := ⟨f - 1, by have := he0.pos; omega⟩
  have HM0 : Hid (exV (f + 1) 3 0 d t0 (hd l).p lc = M) := hM0
  have HPL : Hid (plen P wr = lc.length) := hp0.plen
  have HA0 : Hid (At wr P T o0 c0 d lc) := HA.out.go hgr hp0 he0 (by have := HA.out.deep; omega)
  have HF0 : Hid (12 * lc.length ≤ f + 1 ∧ f + 1 ≤ n ∧ lc.length ≤ l.length) := ⟨hf1, hf2, hl0⟩
  have HX0 : Hid (ExAt (Fr w.heap.size) wr t0 (.pointer (some ⟨b0, 0, none⟩))) := hx0
  have HND0 : Hid (IsNd t0) := hnd0
  have HTK : Hid (wr.heap[q]? = some (.cells tc 136)) := htok
  have HGR : Hid (Gr P w wr) := hgr
  clear hM0 hf1 hf2 hnd0 hx0 hp0 he0 hl0 htok hgr HI HI0
  go_wp2_with (go_at_call 94; fail)
  refine (qW HA0.out ⟨#[91]⟩ (by decide)).mono ?_
  rintro e w6 (⟨hv, rfl, hp, hg, he, hlt⟩ | ⟨hv, rfl, hb⟩)
  rotate_left
  ·have HX6 : Hid (ExAt (Fr w.heap.size) w6 t0 (.pointer (some ⟨b0, 0, none⟩))) := jf HA0.out.ps (zd hb) HX0.out
   have HP6 : Hid (PS w6 P T o0 c0 lc) := HA0.out.ps.below hb
   have HG6 : Hid (Gr P w w6) := HGR.out.trans (zd hb)
   have HV6 : Hid (¬ (hd lc).t = [91]) := hv
   clear hb hv
   go_wp2
   refine HG0.out _ _ ?_
   rw [HMM.out, ← HM0.out, exV, if_neg HV6.out]
   exact ⟨⟨_, _, _, rfl, HX6.out, HP6.out⟩, HG6.out⟩
  have htk := hg.blk HTK.out HNE.out
  have HTK6 : Hid (w6.drew.heap[q]? = some (.cells tc 136)) := htk
  have hc1 : w6.cell? ⟨q, 2, none⟩ = some (.int .i64 ((hd l).p : Int)) := z_ htk HTC.out
  have HX6 : Hid (ExAt (Fr w.heap.size) w6.drew t0 (.pointer (some ⟨b0, 0, none⟩))) := jf HA0.out.ps (hg.trans (zd (Below.refl _ _).drew)) HX0.out
  have HGd : Hid (Gr P wr w6.drew) := hg.trans (zd (Below.refl _ _).drew)
  have HA6 : Hid (At w6.drew P T (o0 + 3) (c0 - 1) (d + 1) lc.tail) := HA0.out.go HGd.out (hp.below (Below.refl _ _).drew) he (by have := HA0.out.deep; omega)
  have HV6 : Hid ((hd lc).t = [91]) := hv
  have HL6 : Hid (12 * lc.tail.length + 10 ≤ f) := by show _ ≤ _; have := HF0.out; omega
  have HL7 : Hid (lc.tail.length < lc.length) := hlt
  clear htk hv hp hg he hlt
  go_wp2_with fail
  go_region_with (go_at_call 234; refine (HII.out f (by have := HF0.out; omega) d _ P T _ _ lc.tail HA6.out HL6.out).mono ?_; intro e w7 hpost; rcases hpost.parts with ⟨t1, l1, v1, o1, c1, hr, rfl, hx7, hp7, hg7⟩ | ⟨k, p, hr, ⟨a, rfl, ha⟩, hg7⟩; rotate_left; exact (by refine ⟨rfl, HG0.out _ _ ?_⟩; rw [HMM.out, ← HM0.out, exV, if_pos HV6.out, hr]; exact ⟨⟨a, rfl, ha⟩, HGR.out.trans (HGd.out.trans hg7)⟩); obtain ⟨vb1, rfl⟩ := IsNd.ptr (zw f 6 0 d .nil 0 lc.tail t1 l1 (by omega) (by omega) hr) hx7; have hQ7 := hg7.blk HTK6.out HNE.out; have hc2 : w7.cell? ⟨q, 2, none⟩ = some (.int .i64 ((hd l).p : Int)) := z_ hQ7 HTC.out; have HQ7 : Hid (w7.heap[q]? = some (.cells tc 136)) := hQ7; have HR : Hid (exV f 6 0 d .nil 0 lc.tail = .ok (t1, l1)) := hr; have HX7 : Hid (ExAt (Fr w.heap.size) w7 t1 (.pointer (some ⟨vb1, 0, none⟩))) := hx7.old (HGR.out.trans HGd.out).size; have HX8 : Hid (ExAt (Fr w.heap.size) w7 t0 (.pointer (some ⟨b0, 0, none⟩))) := jf HA6.out.ps hg7 HX6.out; have HP7 : Hid (PS w7 P T o1 c1 l1) := hp7; have HG7 : Hid (Gr P w w7) := HGR.out.trans (HGd.out.trans hg7); clear hpost hr hx7 hp7 hg7 hQ7)
  all_goals
   go_wp2
   refine ⟨⟨_, _, _, _, _, _, _, _, _, _, _, ⟨w7.heap.size, rfl, ?_⟩, rfl⟩, ?_⟩
   ·obtain ⟨he8, hl8, _⟩ := zq f 6 0 d .nil 0 lc.tail t1 l1 (fun h => by omega) HA6.out.ends HR.out
    refine ⟨⟨f, _, l1, o1, c1, ?_, ?_, ?_, isNd _ _ _ _ _ _ _ _, item_new HG7.out.size HX8.out HX7.out, HP7.out.below ((Below.refl _ _).alloc (Nat.le_refl _) _), he8, ?_⟩, ?_, HG7.out.alloc _⟩
    ·rw [← HM0.out, exV, if_pos HV6.out, HR.out]
     rfl
    ·have := HF0.out; have := HL7.out; omega
    ·have := HF0.out; omega
    ·have := HF0.out; have := HL7.out; omega
    ·rw [zn (Array.getElem?_eq_some_iff.1 HQ7.out).1]
     exact HQ7.out
   ·obtain ⟨he8, hl8, _⟩ := zq f 6 0 d .nil 0 lc.tail t1 l1 (fun h => by omega) HA6.out.ends HR.out
    rw [HPL.out, (HP7.out.below ((Below.refl _ _).alloc (Nat.le_refl _) _)).plen]
    have := HL7.out
    omega
structure BinI (n lv d : Nat) (w : World) (P T : Nat) (p : Nat) (l : List Tok) (M : R Tr) (v : Value) (wr : World) : Prop where
 at' : ∃ f t lc o' c', exV f 1 lv d t p lc = M ∧ 12 * lc.length ≤ f ∧ f ≤ n ∧ IsNd t ∧ ExAt (Fr w.heap.size) wr t v ∧ PS wr P T o' c' lc ∧ Ends lc ∧ lc.length ≤ l.length
 gr : Gr P w wr
theorem bin_new {S : Nat → Prop} {w : World} {p : Int} {m : By} {x : ByteArray} {t u : Tr} {v z : Value} (hx : str m = .string x) (hs : S w.heap.size) (h : ExAt S w t v) (g : ExAt S w u z) : ExAt S (w.alloc (.cells #[.int .i64 3, .int .i64 p, .int .i64 0, .string ⟨#[]⟩, .string x, v, z, .slice none 0 0] 252)) (nd 3 p 0 [] m t u ce) (.pointer (some ⟨w.heap.size, 0, none⟩)) := by
 rw [← hx]
 exact node_new hs h g
theorem near_at' {w : World} {P T o c d : Nat} {l : List Tok} (h : At w P T o c d l) (y : ByteArray) (hy : y.data.toList = (hd l).t) (W : World) (hb : Below w.heap.size w W) :
  Calls Tryz.prog 152 #[.string y] W fun e w' => e = .returned (.int .i64 (zi (hd l).t : Nat)) ∧ Below w.heap.size w w' := by
 rw [← hy]
 exact (near_any y W (h.env.below hb)).mono fun e w' ⟨a, b⟩ => ⟨a, hb.trans (b.mono hb.size)⟩
theorem next_at {w : World} {P T o c d : Nat} {l : List Tok} (h : At w P T o c d l) (y : ByteArray) (hy : str (hd l).t = .string y) (hk : (hd l).t ≠ []) (W : World) (hb : Below w.heap.size w W) :
  Calls Tryz.prog 147 #[.pointer (some ⟨P, 0, none⟩)] W fun e w' => e = .returned (.agg #[.int .i64 ((hd l).k : Int), .string y, .int .i64 ((hd l).p : Int)]) ∧ PS w' P T (o + 3) (c - 1) l.tail ∧ Gr P w w' := by
 obtain ⟨e1, e2, e3, e4⟩ := h.ends.tail hk
 have hA := h.below hb
 rw [← hy]
 exact (next_any W P T o c (hd l) l.tail hA.psc e2).mono fun e w' ⟨a, b, g⟩ => ⟨a, b, (zd hb).trans g⟩
theorem bin_walk (n : Nat) (IB : ∀ m, m ≤ n → BinC m) (lv d : Nat) (w : World) (P T o c : Nat) (l : List Tok) (h : At w P T o c d l) (hlv1 : 1 ≤ lv) (hlv : lv ≤ 6) (hn : 12 * l.length + (10 - lv) ≤ n + 1) :
  Calls Tryz.prog 235 #[.pointer (some ⟨P, 0, none⟩), .int .i64 (lv : Int), .int .i64 (d : Int)] w (ExPost w P T (exV (n + 1) 0 lv d .nil 0 l)) := by
 obtain ⟨y, hy, hyt⟩ := zt (hd l).t
 have HF : Hid (Calls Tryz.prog 59 #[.pointer (some ⟨P, 0, none⟩)] w fun e w' => e = .returned (.agg #[.int .i64 ((hd l).k : Int), .string y, .int .i64 ((hd l).p : Int)]) ∧ Below w.heap.size w w') := look_at h y hy w (Below.refl _ _)
 have HA : Hid (At w P T o c d l) := h
 have HN : Hid (12 * l.length + (10 - lv) ≤ n + 1) := hn
 have HLV : Hid (1 ≤ lv) := hlv1
 have HB1 : Hid (∀ m, m ≤ n → ∀ (w : World) (o c : Nat) (l : List Tok), At w P T o c d l → 12 * l.length + (9 - lv) ≤ m → Calls Tryz.prog 235 #[.pointer (some ⟨P, 0, none⟩), .int .i64 ((lv : Int) + 1), .int .i64 (d : Int)] w (ExPost w P T (exV m 0 (lv + 1) d .nil 0 l))) := fun m hm w o c l h hl => by
  have := IB m hm (lv + 1) d w P T o c l h (by omega) (by omega) (by omega)
  rw [show ((lv + 1 : Nat) : Int) = (lv : Int) + 1 by omega] at this
  exact this
 have HB2 : Hid (∀ m, m ≤ n → ∀ (w : World) (o c : Nat) (l : List Tok), At w P T o c d l → 12 * l.length + (9 - lv) ≤ m → Calls Tryz.prog 235 #[.pointer (some ⟨P, 0, none⟩), .int .i64 (IntKind.i64.wrap ((lv : Int) + 1)), .int .i64 (d : Int)] w (ExPost w P T (exV m 0 (lv + 1) d .nil 0 l))) := fun m hm w o c l h hl => by
  rw [i64_same (by omega) (by omega)]
  exact HB1.out m hm w o c l h hl
 have HM : Hid (exV (n + 1) 0 lv d .nil 0 l = bnd (exV n 0 (lv + 1) d .nil 0 l) fun y l1 => exV n 1 lv d y (hd l).p l1) := by
  show _ = _
  rw [exV, if_neg (by omega)]
 have HG0 : Hid (∀ e w', ExPost w P T (exV (n + 1) 0 lv d .nil 0 l) e w' → ExPost w P T (exV (n + 1) 0 lv d .nil 0 l) e w') := fun _ _ h => h
 generalize hG : ExPost w P T (exV (n + 1) 0 lv d .nil 0 l) = G at *
 clear HG0
 have HG0 : Hid (∀ e w', ExPost w P T (exV (n + 1) 0 lv d .nil 0 l) e w' → G e w') := fun e w' h => by rw [← hG]; exact h
 have h2 := fld2
 have h1 := fld1
 clear h hn hy hyt hG IB hlv1
 go_enter Tryz.func235, Tryz.ntmps235
 go_wp2_with (go_at_call 59; fail)
 refine HF.out.mono ?_
 rintro e w1 ⟨rfl, hb⟩
 have HBw1 : Hid (Below w.heap.size w w1) := hb
 clear hb
 go_wp2_with (go_at_call 235; fail)
 refine (HB1.out n (Nat.le_refl _) w1 o c l (HA.out.below HBw1.out) (by have := HN.out; omega)).mono ?_
 intro e w5 hpost
 rcases hpost.parts with ⟨t, l', v, o', c', hr, rfl, hx5, hp5, hg5⟩ | ⟨k, p, hr, ⟨a, rfl, ha⟩, hg5⟩
 rotate_left
 ·refine ⟨rfl, HG0.out _ _ ?_⟩
  rw [HM.out, hr]
  exact ⟨⟨a, rfl, ha⟩, (zd HBw1.out).trans hg5⟩
 have hnd := zw n 0 (lv + 1) d .nil 0 l t l' (by omega) (by omega) hr
 obtain ⟨vb, rfl⟩ := IsNd.ptr hnd hx5
 obtain ⟨M, hMM⟩ : ∃ M, M = exV n 1 lv d t (hd l).p l' := ⟨_, rfl⟩
 obtain ⟨he5, hl5, -⟩ := zq n 0 (lv + 1) d .nil 0 l t l' (fun h => by omega) HA.out.ends hr
 have HI0 : Hid (BinI n lv d w P T (hd l).p l M (.pointer (some ⟨vb, 0, none⟩)) w5) :=
  ⟨⟨n, t, l', o', c', hMM.symm, by have := HN.out; omega, Nat.le_refl _, hnd, hx5.old HBw1.out.size, hp5, he5, hl5⟩, (zd HBw1.out).trans hg5⟩
 have HMM : Hid (exV (n + 1) 0 lv d .nil 0 l = M) := by
  show _ = _
  rw [HM.out, hr, hMM]
  rfl
 clear hpost hr hx5 hp5 hg5 hMM he5 hl5 hnd HM
 go_wp2_with fail
 go_loopw [8] (fun v wr => ∃ vb : Nat, v = .pointer (some ⟨vb, 0, none⟩) ∧ Hid (BinI n lv d w P T (hd l).p l M (.pointer (some ⟨vb, 0, none⟩)) wr)) (fun _ wr => plen P wr)
 case atStart => exact ⟨vb, rfl, HI0.out⟩
 case round =>
  obtain ⟨b0, rfl, HI⟩ := hrel
  obtain ⟨⟨f, t0, lc, o0, c0, hM0, hf1, hf2, hnd0, hx0, hp0, he0, hl0⟩, hgr⟩ := HI.out
  obtain ⟨f, rfl⟩ : ∃ f', f = f' + 1 := ⟨f - 1, by have := he0.pos; omega⟩
  have HM0 : Hid (exV (f + 1) 1 lv d t0 (hd l).p lc = M) := hM0
  have HPL : Hid (plen P wr = lc.length) := hp0.plen
  have HA0 : Hid (At wr P T o0 c0 d lc) := HA.out.go hgr hp0 he0 (by have := HA.out.deep; omega)
  have HF0 : Hid (12 * lc.length ≤ f + 1 ∧ f + 1 ≤ n ∧ lc.length ≤ l.length) := ⟨hf1, hf2, hl0⟩
  have HX0 : Hid (ExAt (Fr w.heap.size) wr t0 (.pointer (some ⟨b0, 0, none⟩))) := hx0
  have HGR : Hid (Gr P w wr) := hgr
  clear hM0 hf1 hf2 hnd0 hx0 hp0 he0 hl0 hgr HI HI0
  obtain ⟨z, hz, hzt⟩ := zt (hd lc).t
  have HZ : Hid (str (hd lc).t = .string z) := hz
  have HZT : Hid (z.data.toList = (hd lc).t) := hzt
  clear hz hzt
  go_wp2_with (go_at_call 59; fail)
  refine (look_at HA0.out z HZ.out wr (Below.refl _ _)).mono ?_
  rintro e w6 ⟨rfl, hb6⟩
  have HB6 : Hid (Below wr.heap.size wr w6) := hb6
  clear hb6
  go_wp2_with (go_at_call 152; fail)
  refine (near_at' HA0.out z HZT.out w6 HB6.out).mono ?_
  rintro e w7 ⟨rfl, hb7⟩
  have HB7 : Hid (Below wr.heap.size wr w7) := hb7
  clear hb7 HB6
  by_cases hnear : zi (hd lc).t = lv
  rotate_left
  ·have hbe : (((zi (hd lc).t : Nat) : Int) == (lv : Int)) = false := by simp; omega
   have HV6 : Hid (¬ zi (hd lc).t = lv) := hnear
   have HX6 : Hid (ExAt (Fr w.heap.size) w7 t0 (.pointer (some ⟨b0, 0, none⟩))) := jf HA0.out.ps (zd HB7.out) HX0.out
   have HP6 : Hid (PS w7 P T o0 c0 lc) := HA0.out.ps.below HB7.out
   have HG6 : Hid (Gr P w w7) := HGR.out.trans (zd HB7.out)
   clear hnear
   generalize ((zi (hd lc).t : Nat) : Int) = nv at *
   go_wp2
   refine HG0.out _ _ ?_
   rw [HMM.out, ← HM0.out, exV, if_neg HV6.out]
   exact ⟨⟨_, _, _, rfl, HX6.out, HP6.out⟩, HG6.out⟩
  have hbe : (((zi (hd lc).t : Nat) : Int) == (lv : Int)) = true := by simp; omega
  have HV6 : Hid (zi (hd lc).t = lv) := hnear
  have HTN : Hid ((hd lc).t ≠ []) := fun e => by
   rw [e] at hnear
   have h0 : zi [] = 0 := by decide
   have := HLV.out
   omega
  clear hnear
  generalize ((zi (hd lc).t : Nat) : Int) = nv at *
  go_wp2_with (go_at_call 147; fail)
  refine (next_at HA0.out z HZ.out HTN.out w7 HB7.out).mono ?_
  rintro e w8 ⟨rfl, hp, hg⟩
  obtain ⟨he, -, -, hlt⟩ := HA0.out.ends.tail HTN.out
  have HX8 : Hid (ExAt (Fr w.heap.size) w8 t0 (.pointer (some ⟨b0, 0, none⟩))) := jf HA0.out.ps hg HX0.out
  have HGd : Hid (Gr P wr w8) := hg
  have HA8 : Hid (At w8 P T (o0 + 3) (c0 - 1) d lc.tail) := HA0.out.go HGd.out hp he (by have := HA0.out.deep; omega)
  have HL6 : Hid (12 * lc.tail.length + (9 - lv) ≤ f) := by show _ ≤ _; have := HF0.out; omega
  have HL7 : Hid (lc.tail.length < lc.length) := hlt
  clear hp hg he hlt hbe
  go_wp2_with (go_at_call 235; fail)
  refine (HB1.out f (by have := HF0.out; omega) _ _ _ lc.tail HA8.out HL6.out).mono ?_
  intro e w9 hpost
  rcases hpost.parts with ⟨t1, l1, v1, o1, c1, hr, rfl, hx7, hp7, hg7⟩ | ⟨k, p, hr, ⟨a, rfl, ha⟩, hg7⟩
  rotate_left
  ·refine ⟨rfl, HG0.out _ _ ?_⟩
   rw [HMM.out, ← HM0.out, exV, if_pos HV6.out, hr]
   exact ⟨⟨a, rfl, ha⟩, HGR.out.trans (HGd.out.trans hg7)⟩
  obtain ⟨vb1, rfl⟩ := IsNd.ptr (zw f 0 (lv + 1) d .nil 0 lc.tail t1 l1 (by omega) (by omega) hr) hx7
  have HR : Hid (exV f 0 (lv + 1) d .nil 0 lc.tail = .ok (t1, l1)) := hr
  have HX9 : Hid (ExAt (Fr w.heap.size) w9 t1 (.pointer (some ⟨vb1, 0, none⟩))) := hx7.old (HGR.out.trans HGd.out).size
  have HXA : Hid (ExAt (Fr w.heap.size) w9 t0 (.pointer (some ⟨b0, 0, none⟩))) := jf HA8.out.ps hg7 HX8.out
  have HP9 : Hid (PS w9 P T o1 c1 l1) := hp7
  have HG9 : Hid (Gr P w w9) := HGR.out.trans (HGd.out.trans hg7)
  clear hpost hr hx7 hp7 hg7
  go_wp2
  obtain ⟨he8, hl8, -⟩ := zq f 0 (lv + 1) d .nil 0 lc.tail t1 l1 (fun h => by omega) HA8.out.ends HR.out
  have hps := HP9.out.below ((Below.refl _ _).alloc (Nat.le_refl _) (.cells #[.int .i64 3, .int .i64 ((hd l).p : Int), .int .i64 0, .string ⟨#[]⟩, .string z, .pointer (some ⟨b0, 0, none⟩), .pointer (some ⟨vb1, 0, none⟩), .slice none 0 0] 252))
  refine ⟨⟨w9.heap.size, rfl, ?_⟩, ?_⟩
  ·refine ⟨⟨f, _, l1, o1, c1, ?_, ?_, ?_, isNd _ _ _ _ _ _ _ _, bin_new HZ.out HG9.out.size HXA.out HX9.out, hps, he8, ?_⟩, HG9.out.alloc _⟩
   ·rw [← HM0.out, exV, if_pos HV6.out, HR.out]
    rfl
   ·have := HF0.out; have := HL7.out; omega
   ·have := HF0.out; omega
   ·have := HF0.out; have := HL7.out; omega
  ·rw [HPL.out, hps.plen]
   have := HL7.out
   omega
end Go.Proofs.YtnfhpdbbfejioaaGreatDoor
