/- leaf: a name, a call. -/
import Derived.Test.YtpakgaegckkmnaaGreatDoorTF
namespace Go.Proofs.YtpakgaegckkmnaaGreatDoor
set_option linter.unusedVariables false
set_option linter.unusedSimpArgs false
open Go Go.RowKit

/-- Args, behind their (. -/
def argV (n d : Nat) (l : List Tok) : R Tr := if (hd l).t = [41] then .ok (ce, l.tail) else exV n 7 0 d ce 0 l
def ArPost (w : World) (P T : Nat) (r : R Tr) (e : Ending) (w' : World) : Prop :=
  match r with
  | .ok (t, l') => (∃ v ys o' c', e = .returned v ∧ w'.ownsRow w.heap.size 84 1 v ys.length ys ∧ ExAt (Fr w.heap.size) w' t (.tuple ys.toArray) ∧ PS w' P T o' c' l') ∧ Gr P w w'
  | .error (k, p) => Threw k p e w' ∧ Gr P w w'
theorem ArPost.parts {w w' : World} {P T : Nat} {r : R Tr} {e : Ending} (h : ArPost w P T r e w') :
    (∃ t l' v ys o' c', r = .ok (t, l') ∧ e = .returned v ∧ w'.ownsRow w.heap.size 84 1 v ys.length ys ∧ ExAt (Fr w.heap.size) w' t (.tuple ys.toArray) ∧ PS w' P T o' c' l' ∧ Gr P w w') ∨ (∃ k p, r = .error (k, p) ∧ Threw k p e w' ∧ Gr P w w') := by
  match r, h with
  | .ok (t, l'), ⟨⟨v, ys, o', c', a, b, d, f⟩, g⟩ => exact .inl ⟨t, l', v, ys, o', c', rfl, a, b, d, f, g⟩
  | .error (k, p), ⟨a, b⟩ => exact .inr ⟨k, p, rfl, a, b⟩
def ArgsC (n : Nat) : Prop := ∀ (d : Nat) (w : World) (P T o c : Nat) (l : List Tok), At w P T o c (d + 1) l → 12 * l.length + 10 ≤ n → Calls Tryz.prog 91 #[.pointer (some ⟨P, 0, none⟩), .int .i64 (d : Int)] w (ArPost w P T (argV n d l))
theorem own_mono {w : World} {B B' e z n : Nat} {v : Value} {l : List Value} (h : w.ownsRow B e z v n l) (hb : B' ≤ B) : w.ownsRow B' e z v n l := by
  refine ⟨h.1, ?_⟩
  rcases h.2 with hh | ⟨g, cap, cur, a, b, r⟩
  · exact .inl hh
  · exact .inr ⟨g, cap, cur, a, Nat.le_trans hb b, r⟩
/-- A tree in newer blocks stands where an older one is written. -/
theorem set_keeps {m q i : Nat} {w : World} {v : Value} (hq : q < m) (b : Nat) (cs : Array Value) (t : TypeId) (hb : Fr m b) (ht : t = 134 ∨ t = 84) (h : w.heap[b]? = some (.cells cs t)) : (w.setCell ⟨q, i, none⟩ v).heap[b]? = some (.cells cs t) := by
  rw [heap_setCell_other _ _ _ _ (by show b ≠ q; have : m ≤ b := hb; omega)]
  exact h
theorem node_at2 {S : Nat → Prop} {w : World} {b B : Nat} {c a n : Int} {nm op : By} {l r g : Tr} {vl vr vg : Value} {ys : List Value} (hs : S b) (hb : w.heap[b]? = some (.cells #[.int .i64 c, .int .i64 a, .int .i64 n, str nm, str op, vl, vr, vg] 134)) (hl : ExAt S w l vl) (hr : ExAt S w r vr) (ho : w.ownsRow B 84 1 vg ys.length ys) (hS : ∀ i, vg.ownBlock = some i → S i) (hg : ExAt S w g (.tuple ys.toArray)) : ExAt S w (nd c a n nm op l r g) (.pointer (some ⟨b, 0, none⟩)) := by
  rw [ExAt]
  exact ⟨b, vl, vr, vg, ys, hs, rfl, hb, hl, hr, own_mono ho (Nat.zero_le _), hS, hg⟩

set_option maxRecDepth 100000 in
set_option maxHeartbeats 4000000 in
theorem leaf_name (n : Nat) (IA : ArgsC n) (d : Nat) (w : World) (P T o c : Nat) (l : List Tok) (h : At w P T o c d l) (hn : 12 * l.length + 1 ≤ n + 1) (hk : (hd l).k = 0) :
    Calls Tryz.prog 110 #[.pointer (some ⟨P, 0, none⟩), .int .i64 (d : Int)] w (ExPost w P T (exV (n + 1) 4 0 d .nil 0 l)) := by
  obtain ⟨y, hy, hyt⟩ := str_y (hd l).t
  have HF : Hid (Calls Tryz.prog 28 #[.pointer (some ⟨P, 0, none⟩)] w fun e w' => e = .returned (.agg #[.int .i64 0, .string y, .int .i64 ((hd l).p : Int)]) ∧ Below w.heap.size w w') := by
    have := look_at h y hy w (Below.refl _ _)
    rw [hk] at this
    exact this
  have HA : Hid (At w P T o c d l) := h
  have HY : Hid (str (hd l).t = .string y) := hy
  have HN : Hid (12 * l.length + 1 ≤ n + 1) := hn
  have HIA : Hid (ArgsC n) := IA
  have HM : Hid (exV (n + 1) 4 0 d .nil 0 l = bnd (nameVv l) fun nm l1 => if (hd l1).t = [40] then bnd (argV n d l1.tail) fun g l2 => .ok (nd 5 (hd l).p 0 nm [] .nil .nil g, l2) else .ok (nd 2 (hd l).p 0 nm [] .nil .nil ce, l1)) := by
    show _ = _
    rw [exV, if_neg (by omega), if_pos hk]
    congr 1
    funext nm l1
    unfold argV
    split
    · split <;> rfl
    · rfl
  have HG0 : Hid (∀ e w', ExPost w P T (exV (n + 1) 4 0 d .nil 0 l) e w' → ExPost w P T (exV (n + 1) 4 0 d .nil 0 l) e w') := fun _ _ h => h
  generalize hG : ExPost w P T (exV (n + 1) 4 0 d .nil 0 l) = G at *
  rw [← hG] at HG0
  have HG0 : Hid (∀ e w', ExPost w P T (exV (n + 1) 4 0 d .nil 0 l) e w' → G e w') := fun e w' h => by rw [← hG]; exact h
  clear h hk hy hyt hG hn IA
  go_enter Tryz.func110, Tryz.ntmps110
  go_wp2_with (go_at_call 28; fail)
  refine HF.out.mono ?_
  rintro e w1 ⟨rfl, hb⟩
  have HB1 : Hid (Below w.heap.size w w1) := hb
  clear hb
  go_wp2_with (go_at_call 44; fail)
  obtain ⟨W, hW⟩ : ∃ W, W = (w1.alloc (.cells #[.int .i64 0, .string y, .int .i64 ((hd l).p : Int)] 75)).alloc (.cells #[.int .i64 0, .int .i64 ((hd l).p : Int), .int .i64 0, .string ⟨#[]⟩, .string ⟨#[]⟩, .pointer none, .pointer none, .slice none 0 0] 134) := ⟨_, rfl⟩
  obtain ⟨q, hq⟩ : ∃ q, q = w1.heap.size + 1 := ⟨_, rfl⟩
  have HXW : Hid (W.heap[q]? = some (.cells #[.int .i64 0, .int .i64 ((hd l).p : Int), .int .i64 0, .string ⟨#[]⟩, .string ⟨#[]⟩, .pointer none, .pointer none, .slice none 0 0] 134)) := by
    show _ = _
    rw [hW, hq]
    have := heap_alloc_last (w1.alloc (.cells #[.int .i64 0, .string y, .int .i64 ((hd l).p : Int)] 75)) (.cells #[.int .i64 0, .int .i64 ((hd l).p : Int), .int .i64 0, .string ⟨#[]⟩, .string ⟨#[]⟩, .pointer none, .pointer none, .slice none 0 0] 134)
    simpa using this
  have HQ : Hid (w.heap.size ≤ q ∧ P < q ∧ T < q) := by
    show _ ∧ _
    have := HB1.out.size
    have := HA.out.ltP
    have := HA.out.ltT
    omega
  have HBW : Hid (Below w.heap.size w W) := by
    show Below _ _ _
    rw [hW]
    exact (HB1.out.alloc HB1.out.size _).alloc (by simp; have := HB1.out.size; omega) _
  rw [← hW, ← hq]
  clear hW hq HB1
  have hAW := HA.out.below HBW.out
  refine (nm_at hAW).mono ?_
  rintro e w2 (⟨hv, rfl, hp, hg, he, hlt⟩ | ⟨k, hv, ⟨a, rfl, ha⟩, hg⟩)
  rotate_left
  · refine ⟨rfl, HG0.out _ _ ?_⟩
    rw [HM.out, hv]
    exact ⟨⟨a, rfl, ha⟩, (gr_below HBW.out).trans hg⟩
  have hx2 := hg.blk HXW.out (by have := HQ.out; omega)
  have f0 := row_free hx2 0
  have f3 := row_free hx2 3
  have c0 := cell_at (i := 0) hx2 rfl
  have c3 := cell_at (i := 3) hx2 rfl
  have HX2 : Hid (w2.heap[q]? = some (.cells #[.int .i64 0, .int .i64 ((hd l).p : Int), .int .i64 0, .string ⟨#[]⟩, .string ⟨#[]⟩, .pointer none, .pointer none, .slice none 0 0] 134)) := hx2
  have HP2 : Hid (PS w2 P T (o + 3) (c - 1) l.tail) := hp
  have HG2 : Hid (Gr P w w2) := (gr_below HBW.out).trans hg
  have HV : Hid (nameVv l = .ok ((hd l).t, l.tail)) := hv
  have HE : Hid (Ends l.tail) := he
  have HL : Hid (l.tail.length < l.length) := hlt
  rw [HY.out]
  clear hx2 hp hg hv HXW HBW hAW he hlt
  go_wp2_with (go_at_call 45; fail)
  obtain ⟨W3, hW3⟩ : ∃ W3, W3 = (w2.setCell ⟨q, 0, none⟩ (.int .i64 2)).setCell ⟨q, 3, none⟩ (.string y) := ⟨_, rfl⟩
  have HX3 : Hid (W3.heap[q]? = some (.cells #[.int .i64 2, .int .i64 ((hd l).p : Int), .int .i64 0, .string y, .string ⟨#[]⟩, .pointer none, .pointer none, .slice none 0 0] 134)) := by
    show _ = _
    rw [hW3]
    exact heap_setCell_same _ _ _ _ _ _ (heap_setCell_same _ _ _ _ _ _ HX2.out)
  have HP3 : Hid (PS W3 P T (o + 3) (c - 1) l.tail) := by
    show PS _ _ _ _ _ _
    rw [hW3]
    exact (HP2.out.set HQ.out.2.1 HQ.out.2.2).set HQ.out.2.1 HQ.out.2.2
  have HG3 : Hid (Gr P w W3) := by
    show Gr _ _ _
    rw [hW3]
    exact (HG2.out.set HQ.out.1).set HQ.out.1
  rw [← hW3]
  clear hW3 HX2 HP2 HG2 f0 f3 c0 c3
  have hA3 : At W3 P T (o + 3) (c - 1) d l.tail := HA.out.go HG3.out HP3.out HE.out (by have := HA.out.deep; have := HL.out; omega)
  refine (acc_at hA3 ⟨#[40]⟩ (by decide)).mono ?_
  rintro e w4 (⟨hv, rfl, hp, hg, he, hlt⟩ | ⟨hv, rfl, hb⟩)
  · have hx4 := hg.blk HX3.out (by have := HQ.out; omega)
    have HX4 : Hid (w4.heap[q]? = some (.cells #[.int .i64 2, .int .i64 ((hd l).p : Int), .int .i64 0, .string y, .string ⟨#[]⟩, .pointer none, .pointer none, .slice none 0 0] 134)) := hx4
    have HG4 : Hid (Gr P w w4) := HG3.out.trans hg
    have HA4 : Hid (At w4 P T (o + 3 + 3) (c - 1 - 1) (d + 1) l.tail.tail) := HA.out.go HG4.out hp he (by have := HA.out.deep; have := HL.out; omega)
    have HV4 : Hid ((hd l.tail).t = [40]) := hv
    have HL4 : Hid (12 * l.tail.tail.length + 10 ≤ n) := by show _ ≤ _; have := HN.out; have := HL.out; omega
    clear hA3 hx4 hv hp hg he hlt HX3 HP3 HG3
    go_wp2_with (go_at_call 91; fail)
    refine (HIA.out d w4 P T _ _ l.tail.tail HA4.out HL4.out).mono ?_
    intro e w5 hpost
    rcases hpost.parts with ⟨t, l', v, ys, o', c', hr, rfl, ho5, hx5, hp5, hg5⟩ | ⟨k, p, hr, ⟨a, rfl, ha⟩, hg5⟩
    rotate_left
    · refine ⟨rfl, HG0.out _ _ ?_⟩
      rw [HM.out, HV.out]
      show ExPost w P T (if (hd l.tail).t = [40] then _ else _) _ _
      rw [if_pos HV4.out, hr]
      exact ⟨⟨a, rfl, ha⟩, HG4.out.trans hg5⟩
    have hx5q := hg5.blk HX4.out (by have := HQ.out; omega)
    have f0 := row_free hx5q 0
    have f7 := row_free hx5q 7
    have c0 := cell_at (i := 0) hx5q rfl
    have c7 := cell_at (i := 7) hx5q rfl
    have HX5 : Hid (w5.heap[q]? = some (.cells #[.int .i64 2, .int .i64 ((hd l).p : Int), .int .i64 0, .string y, .string ⟨#[]⟩, .pointer none, .pointer none, .slice none 0 0] 134)) := hx5q
    have HP5 : Hid (PS w5 P T o' c' l') := hp5
    have HG5 : Hid (Gr P w w5) := HG4.out.trans hg5
    have HT5 : Hid (ExAt (Fr w4.heap.size) w5 t (.tuple ys.toArray)) := hx5
    have HO5 : Hid (w5.ownsRow w4.heap.size 84 1 v ys.length ys) := ho5
    have HR : Hid (argV n d l.tail.tail = .ok (t, l')) := hr
    have HQ4 : Hid (q < w4.heap.size) := (Array.getElem?_eq_some_iff.1 HX4.out).1
    obtain ⟨qv, cv, rfl⟩ := own_slice ho5
    clear hpost hr ho5 hx5 hp5 hg5 hx5q HX4
    go_wp2
    refine HG0.out _ _ ?_
    rw [HM.out, HV.out]
    show ExPost w P T (if (hd l.tail).t = [40] then _ else _) _ _
    rw [if_pos HV4.out, HR.out]
    have hk2 : ∀ (b : Nat) (cs : Array Value) (t : TypeId), Fr w4.heap.size b → t = 134 ∨ t = 84 → w5.heap[b]? = some (.cells cs t) → ((w5.setCell ⟨q, 0, none⟩ (.int .i64 5)).setCell ⟨q, 7, none⟩ (.slice qv ys.length cv)).heap[b]? = some (.cells cs t) := fun b cs t hb ht h => set_keeps HQ4.out b cs t hb ht (set_keeps HQ4.out b cs t hb ht h)
    have hs4 : w.heap.size ≤ w4.heap.size := HG4.out.size
    refine ⟨⟨_, o', c', rfl, node_at2 (b := q) (vl := .pointer none) (vr := .pointer none) HQ.out.1 (by rw [HY.out]; exact heap_setCell_same _ _ _ _ _ _ (heap_setCell_same _ _ _ _ _ _ HX5.out)) (nil_at _ _) (nil_at _ _) (own_kept hk2 (own_mono HO5.out (Nat.zero_le _)) (fun i hi => (HO5.out.lt i hi).1)) (fun i hi => Nat.le_trans hs4 (HO5.out.lt i hi).1) ((ExAt.kept hk2 _ _ HT5.out).old hs4), (HP5.out.set HQ.out.2.1 HQ.out.2.2).set HQ.out.2.1 HQ.out.2.2⟩, (HG5.out.set HQ.out.1).set HQ.out.1⟩
  · have hg : Gr P W3 w4 := gr_below hb
    have HX4 : Hid (w4.heap[q]? = some (.cells #[.int .i64 2, .int .i64 ((hd l).p : Int), .int .i64 0, .string y, .string ⟨#[]⟩, .pointer none, .pointer none, .slice none 0 0] 134)) := hg.blk HX3.out (by have := HQ.out; omega)
    have HG4 : Hid (Gr P w w4) := HG3.out.trans hg
    have HP4 : Hid (PS w4 P T (o + 3) (c - 1) l.tail) := HP3.out.below hb
    have HV4 : Hid (¬ (hd l.tail).t = [40]) := hv
    clear hA3 hg hb hv HX3 HG3 HP3
    go_wp2
    refine HG0.out _ _ ?_
    rw [HM.out, HV.out]
    show ExPost w P T (if (hd l.tail).t = [40] then _ else _) _ _
    rw [if_neg HV4.out]
    exact ⟨⟨_, _, _, rfl, node_at (b := q) HQ.out.1 (by rw [HY.out]; exact HX4.out) (nil_at _ _) (nil_at _ _), HP4.out⟩, HG4.out⟩
end Go.Proofs.YtpakgaegckkmnaaGreatDoor
