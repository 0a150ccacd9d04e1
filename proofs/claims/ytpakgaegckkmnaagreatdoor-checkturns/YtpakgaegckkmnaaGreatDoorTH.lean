/- leaf: the rest. -/
import Derived.Test.YtpakgaegckkmnaaGreatDoorTG
namespace Go.Proofs.YtpakgaegckkmnaaGreatDoor
set_option linter.unusedVariables false
set_option linter.unusedSimpArgs false
open Go Go.RowKit

def HeldC (n : Nat) : Prop := ∀ (d : Nat) (w : World) (P T o c : Nat) (l : List Tok), At w P T o c d l → 12 * l.length ≤ n → Calls Tryz.prog 80 #[.pointer (some ⟨P, 0, none⟩), .int .i64 (d : Int)] w (ExPost w P T (exV n 5 0 d .nil 0 l))

set_option maxRecDepth 100000 in
set_option maxHeartbeats 8000000 in
theorem leaf_rest (n : Nat) (IH : HeldC n) (d : Nat) (w : World) (P T o c : Nat) (l : List Tok) (h : At w P T o c d l) (hn : 12 * l.length + 1 ≤ n + 1) (hk2 : (hd l).k ≠ 2) (hk0 : (hd l).k ≠ 0) :
    Calls Tryz.prog 110 #[.pointer (some ⟨P, 0, none⟩), .int .i64 (d : Int)] w (ExPost w P T (exV (n + 1) 4 0 d .nil 0 l)) := by
  obtain ⟨y, hy, hyt⟩ := str_y (hd l).t
  have HF : Hid (Calls Tryz.prog 28 #[.pointer (some ⟨P, 0, none⟩)] w fun e w' => e = .returned (.agg #[.int .i64 ((hd l).k : Int), .string y, .int .i64 ((hd l).p : Int)]) ∧ Below w.heap.size w w') := look_at h y hy w (Below.refl _ _)
  have HA : Hid (At w P T o c d l) := h
  have HN : Hid (12 * l.length + 1 ≤ n + 1) := hn
  have HIH : Hid (HeldC n) := IH
  have b2 : (((hd l).k : Int) == 2) = false := by simp; omega
  have b0 : (((hd l).k : Int) == 0) = false := by simp; omega
  have HM : Hid (exV (n + 1) 4 0 d .nil 0 l = if (hd l).t = [110, 101, 119] then bnd (exV n 5 0 d .nil 0 l.tail) fun y l1 => .ok (nd 6 (hd l).p 0 [] [] y .nil ce, l1)
      else if (hd l).t = [108, 101, 110] then bnd (exV n 5 0 d .nil 0 l.tail) fun y l1 => .ok (nd 7 (hd l).p 0 [] [] y .nil ce, l1)
      else if (hd l).t = [105, 110, 112, 117, 116] then bnd (needV [40] l.tail) fun _ l1 => bnd (needV [41] l1) fun _ l2 => .ok (nd 9 (hd l).p 0 [] [] .nil .nil ce, l2)
      else exV n 5 0 d .nil 0 l) := by
    show _ = _
    rw [exV, if_neg hk2, if_neg hk0]
  have HG0 : Hid (∀ e w', ExPost w P T (exV (n + 1) 4 0 d .nil 0 l) e w' → ExPost w P T (exV (n + 1) 4 0 d .nil 0 l) e w') := fun _ _ h => h
  generalize hG : ExPost w P T (exV (n + 1) 4 0 d .nil 0 l) = G at *
  clear HG0
  have HG0 : Hid (∀ e w', ExPost w P T (exV (n + 1) 4 0 d .nil 0 l) e w' → G e w') := fun e w' h => by rw [← hG]; exact h
  clear h hk2 hk0 hy hyt hG hn IH
  go_enter Tryz.func110, Tryz.ntmps110
  go_wp2_with (go_at_call 28; fail)
  refine HF.out.mono ?_
  rintro e w1 ⟨rfl, hb⟩
  have HB1 : Hid (Below w.heap.size w w1) := hb
  clear hb
  go_wp2_with (go_at_call 45; fail)
  obtain ⟨W, hW⟩ : ∃ W, W = (w1.alloc (.cells #[.int .i64 ((hd l).k : Int), .string y, .int .i64 ((hd l).p : Int)] 75)).alloc (.cells #[.int .i64 0, .int .i64 ((hd l).p : Int), .int .i64 0, .string ⟨#[]⟩, .string ⟨#[]⟩, .pointer none, .pointer none, .slice none 0 0] 134) := ⟨_, rfl⟩
  obtain ⟨q, hq⟩ : ∃ q, q = w1.heap.size + 1 := ⟨_, rfl⟩
  have HXW : Hid (W.heap[q]? = some (.cells #[.int .i64 0, .int .i64 ((hd l).p : Int), .int .i64 0, .string ⟨#[]⟩, .string ⟨#[]⟩, .pointer none, .pointer none, .slice none 0 0] 134)) := by
    show _ = _
    rw [hW, hq]
    have := heap_alloc_last (w1.alloc (.cells #[.int .i64 ((hd l).k : Int), .string y, .int .i64 ((hd l).p : Int)] 75)) (.cells #[.int .i64 0, .int .i64 ((hd l).p : Int), .int .i64 0, .string ⟨#[]⟩, .string ⟨#[]⟩, .pointer none, .pointer none, .slice none 0 0] 134)
    simpa using this
  have HQ : Hid (w.heap.size ≤ q ∧ P < q ∧ T < q) := by
    show _ ∧ _
    have := HB1.out.size
    have := HA.out.ltP
    have := HA.out.ltT
    omega
  have HBW : Hid (Below w.heap.size w W) := by
    show Below _ _ _
    rw [hW]
    exact (HB1.out.alloc HB1.out.size _).alloc (by simp; have := HB1.out.size; omega) _
  rw [← hW, ← hq]
  clear hW hq HB1
  have hA0 := HA.out.below HBW.out
  refine (acc_at hA0 ⟨#[110, 101, 119]⟩ (by decide)).mono ?_
  rintro e w2 (⟨hv, rfl, hp, hg, he, hlt⟩ | ⟨hv, rfl, hb⟩)
  · have HX4 : Hid (w2.heap[q]? = some (.cells #[.int .i64 0, .int .i64 ((hd l).p : Int), .int .i64 0, .string ⟨#[]⟩, .string ⟨#[]⟩, .pointer none, .pointer none, .slice none 0 0] 134)) := hg.blk HXW.out (by have := HQ.out; omega)
    have HG4 : Hid (Gr P w w2) := (gr_below HBW.out).trans hg
    have HA4 : Hid (At w2 P T (o + 3) (c - 1) d l.tail) := HA.out.go HG4.out hp he (by have := HA.out.deep; omega)
    have HYes : Hid ((hd l).t = [110, 101, 119]) := hv
    have HL4 : Hid (12 * l.tail.length ≤ n) := by show _ ≤ _; have := HN.out; omega
    clear hA0 hv hp hg he hlt HXW HBW
    go_wp2_with (go_at_call 80; fail)
    refine (HIH.out d w2 P T _ _ l.tail HA4.out HL4.out).mono ?_
    intro e w5 hpost
    rcases hpost.parts with ⟨t, l', v, o', c', hr, rfl, hx5, hp5, hg5⟩ | ⟨k, p, hr, ⟨a, rfl, ha⟩, hg5⟩
    rotate_left
    · refine ⟨rfl, HG0.out _ _ ?_⟩
      rw [HM.out, if_pos HYes.out, hr]
      exact ⟨⟨a, rfl, ha⟩, HG4.out.trans hg5⟩
    obtain ⟨vb, rfl⟩ := IsNd.ptr (ex_node n 5 0 d .nil 0 l.tail t l' (by omega) (by omega) hr) hx5
    have hx5q := hg5.blk HX4.out (by have := HQ.out; omega)
    have f0 := row_free hx5q 0
    have f5 := row_free hx5q 5
    have c0 := cell_at (i := 0) hx5q rfl
    have c5 := cell_at (i := 5) hx5q rfl
    have HX5 : Hid (w5.heap[q]? = some (.cells #[.int .i64 0, .int .i64 ((hd l).p : Int), .int .i64 0, .string ⟨#[]⟩, .string ⟨#[]⟩, .pointer none, .pointer none, .slice none 0 0] 134)) := hx5q
    have HP5 : Hid (PS w5 P T o' c' l') := hp5
    have HG5 : Hid (Gr P w w5) := HG4.out.trans hg5
    have HT5 : Hid (ExAt (Fr w2.heap.size) w5 t (.pointer (some ⟨vb, 0, none⟩))) := hx5
    have HR : Hid (exV n 5 0 d .nil 0 l.tail = .ok (t, l')) := hr
    have HQ4 : Hid (q < w2.heap.size) := (Array.getElem?_eq_some_iff.1 HX4.out).1
    clear hpost hr hx5 hp5 hg5 hx5q HX4
    go_wp2
    refine HG0.out _ _ ?_
    rw [HM.out, if_pos HYes.out, HR.out]
    have hk2 : ∀ (b : Nat) (cs : Array Value) (t : TypeId), Fr w2.heap.size b → t = 134 ∨ t = 84 → w5.heap[b]? = some (.cells cs t) → ((w5.setCell ⟨q, 0, none⟩ (.int .i64 6)).setCell ⟨q, 5, none⟩ (.pointer (some ⟨vb, 0, none⟩))).heap[b]? = some (.cells cs t) := fun b cs t hb ht h => set_keeps HQ4.out b cs t hb ht (set_keeps HQ4.out b cs t hb ht h)
    refine ⟨⟨_, o', c', rfl, node_at (b := q) HQ.out.1 (heap_setCell_same _ _ _ _ _ _ (heap_setCell_same _ _ _ _ _ _ HX5.out)) ((ExAt.kept hk2 _ _ HT5.out).old HG4.out.size) (nil_at _ _), (HP5.out.set HQ.out.2.1 HQ.out.2.2).set HQ.out.2.1 HQ.out.2.2⟩, (HG5.out.set HQ.out.1).set HQ.out.1⟩
  have HXw2 : Hid (w2.heap[q]? = some (.cells #[.int .i64 0, .int .i64 ((hd l).p : Int), .int .i64 0, .string ⟨#[]⟩, .string ⟨#[]⟩, .pointer none, .pointer none, .slice none 0 0] 134)) := (gr_below (P := P) hb).blk HXW.out (by have := HQ.out; omega)
  have HBw2 : Hid (Below w.heap.size w w2) := HBW.out.trans (hb.mono HBW.out.size)
  have HNo0 : Hid (¬ (hd l).t = [110, 101, 119]) := hv
  clear hA0 hv hb HXW HBW
  go_wp2_with (go_at_call 45; fail)
  have hA1 := HA.out.below HBw2.out
  refine (acc_at hA1 ⟨#[108, 101, 110]⟩ (by decide)).mono ?_
  rintro e w3 (⟨hv, rfl, hp, hg, he, hlt⟩ | ⟨hv, rfl, hb⟩)
  · have HX4 : Hid (w3.heap[q]? = some (.cells #[.int .i64 0, .int .i64 ((hd l).p : Int), .int .i64 0, .string ⟨#[]⟩, .string ⟨#[]⟩, .pointer none, .pointer none, .slice none 0 0] 134)) := hg.blk HXw2.out (by have := HQ.out; omega)
    have HG4 : Hid (Gr P w w3) := (gr_below HBw2.out).trans hg
    have HA4 : Hid (At w3 P T (o + 3) (c - 1) d l.tail) := HA.out.go HG4.out hp he (by have := HA.out.deep; omega)
    have HYes : Hid ((hd l).t = [108, 101, 110]) := hv
    have HL4 : Hid (12 * l.tail.length ≤ n) := by show _ ≤ _; have := HN.out; omega
    clear hA1 hv hp hg he hlt HXw2 HBw2
    go_wp2_with (go_at_call 80; fail)
    refine (HIH.out d w3 P T _ _ l.tail HA4.out HL4.out).mono ?_
    intro e w5 hpost
    rcases hpost.parts with ⟨t, l', v, o', c', hr, rfl, hx5, hp5, hg5⟩ | ⟨k, p, hr, ⟨a, rfl, ha⟩, hg5⟩
    rotate_left
    · refine ⟨rfl, HG0.out _ _ ?_⟩
      rw [HM.out, if_neg HNo0.out, if_pos HYes.out, hr]
      exact ⟨⟨a, rfl, ha⟩, HG4.out.trans hg5⟩
    obtain ⟨vb, rfl⟩ := IsNd.ptr (ex_node n 5 0 d .nil 0 l.tail t l' (by omega) (by omega) hr) hx5
    have hx5q := hg5.blk HX4.out (by have := HQ.out; omega)
    have f0 := row_free hx5q 0
    have f5 := row_free hx5q 5
    have c0 := cell_at (i := 0) hx5q rfl
    have c5 := cell_at (i := 5) hx5q rfl
    have HX5 : Hid (w5.heap[q]? = some (.cells #[.int .i64 0, .int .i64 ((hd l).p : Int), .int .i64 0, .string ⟨#[]⟩, .string ⟨#[]⟩, .pointer none, .pointer none, .slice none 0 0] 134)) := hx5q
    have HP5 : Hid (PS w5 P T o' c' l') := hp5
    have HG5 : Hid (Gr P w w5) := HG4.out.trans hg5
    have HT5 : Hid (ExAt (Fr w3.heap.size) w5 t (.pointer (some ⟨vb, 0, none⟩))) := hx5
    have HR : Hid (exV n 5 0 d .nil 0 l.tail = .ok (t, l')) := hr
    have HQ4 : Hid (q < w3.heap.size) := (Array.getElem?_eq_some_iff.1 HX4.out).1
    clear hpost hr hx5 hp5 hg5 hx5q HX4
    go_wp2
    refine HG0.out _ _ ?_
    rw [HM.out, if_neg HNo0.out, if_pos HYes.out, HR.out]
    have hk2 : ∀ (b : Nat) (cs : Array Value) (t : TypeId), Fr w3.heap.size b → t = 134 ∨ t = 84 → w5.heap[b]? = some (.cells cs t) → ((w5.setCell ⟨q, 0, none⟩ (.int .i64 7)).setCell ⟨q, 5, none⟩ (.pointer (some ⟨vb, 0, none⟩))).heap[b]? = some (.cells cs t) := fun b cs t hb ht h => set_keeps HQ4.out b cs t hb ht (set_keeps HQ4.out b cs t hb ht h)
    refine ⟨⟨_, o', c', rfl, node_at (b := q) HQ.out.1 (heap_setCell_same _ _ _ _ _ _ (heap_setCell_same _ _ _ _ _ _ HX5.out)) ((ExAt.kept hk2 _ _ HT5.out).old HG4.out.size) (nil_at _ _), (HP5.out.set HQ.out.2.1 HQ.out.2.2).set HQ.out.2.1 HQ.out.2.2⟩, (HG5.out.set HQ.out.1).set HQ.out.1⟩
  have HXw3 : Hid (w3.heap[q]? = some (.cells #[.int .i64 0, .int .i64 ((hd l).p : Int), .int .i64 0, .string ⟨#[]⟩, .string ⟨#[]⟩, .pointer none, .pointer none, .slice none 0 0] 134)) := (gr_below (P := P) hb).blk HXw2.out (by have := HQ.out; omega)
  have HBw3 : Hid (Below w.heap.size w w3) := HBw2.out.trans (hb.mono HBw2.out.size)
  have HNo1 : Hid (¬ (hd l).t = [108, 101, 110]) := hv
  clear hA1 hv hb HXw2 HBw2
  go_wp2_with (go_at_call 45; fail)
  have hA2 := HA.out.below HBw3.out
  refine (acc_at hA2 ⟨#[105, 110, 112, 117, 116]⟩ (by decide)).mono ?_
  rintro e w4 (⟨hv, rfl, hp, hg, he, hlt⟩ | ⟨hv, rfl, hb⟩)
  · have hx4 := hg.blk HXw3.out (by have := HQ.out; omega)
    have f0 := row_free hx4 0
    have c0 := cell_at (i := 0) hx4 rfl
    have HX4 : Hid (w4.heap[q]? = some (.cells #[.int .i64 0, .int .i64 ((hd l).p : Int), .int .i64 0, .string ⟨#[]⟩, .string ⟨#[]⟩, .pointer none, .pointer none, .slice none 0 0] 134)) := hx4
    have HG4 : Hid (Gr P w w4) := (gr_below HBw3.out).trans hg
    have HP4 : Hid (PS w4 P T (o + 3) (c - 1) l.tail) := hp
    have HE4 : Hid (Ends l.tail) := he
    have HL4 : Hid (l.tail.length < l.length) := hlt
    have HYes : Hid ((hd l).t = [105, 110, 112, 117, 116]) := hv
    clear hA2 hx4 hv hp hg he hlt HXw3 HBw3
    go_wp2_with (go_at_call 43; fail)
    obtain ⟨W5, hW5⟩ : ∃ W5, W5 = w4.setCell ⟨q, 0, none⟩ (.int .i64 9) := ⟨_, rfl⟩
    have HX5 : Hid (W5.heap[q]? = some (.cells #[.int .i64 9, .int .i64 ((hd l).p : Int), .int .i64 0, .string ⟨#[]⟩, .string ⟨#[]⟩, .pointer none, .pointer none, .slice none 0 0] 134)) := by
      show _ = _
      rw [hW5]
      exact heap_setCell_same _ _ _ _ _ _ HX4.out
    have HP5 : Hid (PS W5 P T (o + 3) (c - 1) l.tail) := by
      show PS _ _ _ _ _ _
      rw [hW5]
      exact HP4.out.set HQ.out.2.1 HQ.out.2.2
    have HG5 : Hid (Gr P w W5) := by
      show Gr _ _ _
      rw [hW5]
      exact HG4.out.set HQ.out.1
    rw [← hW5]
    clear hW5 HX4 HP4 HG4 f0 c0
    have hA5 : At W5 P T (o + 3) (c - 1) d l.tail := HA.out.go HG5.out HP5.out HE4.out (by have := HA.out.deep; have := HL4.out; omega)
    refine (nee_at hA5 ⟨#[40]⟩ (by decide)).mono ?_
    rintro e w6 (⟨hv, rfl, hp, hg, he, hlt⟩ | ⟨hv, ⟨a, rfl, ha⟩, hg⟩)
    rotate_left
    · refine ⟨rfl, HG0.out _ _ ?_⟩
      rw [HM.out, if_neg HNo0.out, if_neg HNo1.out, if_pos HYes.out]
      have hv' : needV [40] l.tail = _ := hv
      rw [hv']
      exact ⟨⟨a, rfl, ha⟩, HG5.out.trans hg⟩
    have HX6 : Hid (w6.heap[q]? = some (.cells #[.int .i64 9, .int .i64 ((hd l).p : Int), .int .i64 0, .string ⟨#[]⟩, .string ⟨#[]⟩, .pointer none, .pointer none, .slice none 0 0] 134)) := hg.blk HX5.out (by have := HQ.out; omega)
    have HG6 : Hid (Gr P w w6) := HG5.out.trans hg
    have HA6 : Hid (At w6 P T (o + 3 + 3) (c - 1 - 1) d l.tail.tail) := HA.out.go HG6.out hp he (by have := HA.out.deep; have := HL4.out; omega)
    have HV6 : Hid (needV [40] l.tail = .ok ((), l.tail.tail)) := hv
    clear hA5 hv hp hg he hlt HX5 HP5 HG5
    go_wp2_with (go_at_call 43; fail)
    refine (nee_at HA6.out ⟨#[41]⟩ (by decide)).mono ?_
    rintro e w7 (⟨hv, rfl, hp, hg, he, hlt⟩ | ⟨hv, ⟨a, rfl, ha⟩, hg⟩)
    rotate_left
    · refine ⟨rfl, HG0.out _ _ ?_⟩
      rw [HM.out, if_neg HNo0.out, if_neg HNo1.out, if_pos HYes.out, HV6.out]
      have hv' : needV [41] l.tail.tail = _ := hv
      show ExPost w P T (bnd (needV [41] l.tail.tail) _) _ _
      rw [hv']
      exact ⟨⟨a, rfl, ha⟩, HG6.out.trans hg⟩
    have HX7 : Hid (w7.heap[q]? = some (.cells #[.int .i64 9, .int .i64 ((hd l).p : Int), .int .i64 0, .string ⟨#[]⟩, .string ⟨#[]⟩, .pointer none, .pointer none, .slice none 0 0] 134)) := hg.blk HX6.out (by have := HQ.out; omega)
    have HG7 : Hid (Gr P w w7) := HG6.out.trans hg
    have HP7 : Hid (PS w7 P T (o + 3 + 3 + 3) (c - 1 - 1 - 1) l.tail.tail.tail) := hp
    have HV7 : Hid (needV [41] l.tail.tail = .ok ((), l.tail.tail.tail)) := hv
    clear hv hp hg he hlt HX6 HG6 HA6
    go_wp2
    refine HG0.out _ _ ?_
    rw [HM.out, if_neg HNo0.out, if_neg HNo1.out, if_pos HYes.out, HV6.out]
    show ExPost w P T (bnd (needV [41] l.tail.tail) _) _ _
    rw [HV7.out]
    exact ⟨⟨_, _, _, rfl, node_at (b := q) HQ.out.1 HX7.out (nil_at _ _) (nil_at _ _), HP7.out⟩, HG7.out⟩
  have HBw4 : Hid (Below w.heap.size w w4) := HBw3.out.trans (hb.mono HBw3.out.size)
  have HNo2 : Hid (¬ (hd l).t = [105, 110, 112, 117, 116]) := hv
  clear hA2 hv hb HXw3 HBw3
  go_wp2_with (go_at_call 80; fail)
  refine (HIH.out d w4 P T _ _ l (HA.out.below HBw4.out) (by have := HN.out; omega)).mono ?_
  intro e w5 hpost
  have hfin : ExPost w P T (exV (n + 1) 4 0 d .nil 0 l) e w5 := by
    rw [HM.out, if_neg HNo0.out, if_neg HNo1.out, if_neg HNo2.out]
    exact ExPost.back (gr_below HBw4.out) hpost
  rcases hpost.parts with ⟨t, l', v, o', c', hr, rfl, hx5, hp5, hg5⟩ | ⟨k, p, hr, ⟨a, rfl, ha⟩, hg5⟩
  rotate_left
  · exact ⟨rfl, HG0.out _ _ hfin⟩
  have HFin : Hid (ExPost w P T (exV (n + 1) 4 0 d .nil 0 l) (.returned v) w5) := hfin
  clear hpost hfin hr hx5 hp5 hg5
  go_wp2
  exact HG0.out _ _ HFin.out
end Go.Proofs.YtpakgaegckkmnaaGreatDoor
