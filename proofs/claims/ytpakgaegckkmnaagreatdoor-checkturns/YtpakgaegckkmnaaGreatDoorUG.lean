/- Plain: parameters, functions, programs; param walked. -/
import Derived.Test.YtpakgaegckkmnaaGreatDoorUF
namespace Go.Proofs.YtpakgaegckkmnaaGreatDoor
set_option linter.unusedVariables false
set_option linter.unusedSimpArgs false
open Go Go.RowKit

/-- A parameter: name, type. -/
abbrev pr (nm : By) (ty : Int) : Tr := .agg [.lit (.string nm), .lit (.int .i64 ty)]
/-- A function: name, place, parameters, body. -/
abbrev fnc (nm : By) (a : Int) (ps b : Tr) : Tr := .agg [.lit (.string nm), .lit (.int .i64 a), ps, b]
def parV (l : List Tok) : R Tr := bnd (nameVv l) fun nm l1 => bnd (needV [58] l1) fun _ l2 =>
  if (hd l2).t = [97, 114, 114] then .ok (pr nm 2, l2.tail) else bnd (needV [105, 110, 116] l2) fun _ l3 => .ok (pr nm 1, l3)
def parlV : Nat → List Tok → R Tr
  | 0, _ => .error (0, 0)
  | f + 1, l => bnd (parV l) fun x l1 => if (hd l1).t = [44] then bnd (parlV f l1.tail) fun g l2 => .ok (cc x g, l2) else bnd (needV [41] l1) fun _ l2 => .ok (cc x ce, l2)
def parsV (l : List Tok) : R Tr := if (hd l).t = [41] then .ok (ce, l.tail) else parlV (l.length + 2) l
def fnV (l : List Tok) : R Tr := bnd (needV [102, 110] l) fun _ l1 => bnd (nameVv l1) fun nm l2 => bnd (needV [40] l2) fun _ l3 => bnd (parsV l3) fun ps l4 => bnd (blockV 0 l4) fun b l5 => .ok (fnc nm (hd l).p ps b, l5)
def progV : Nat → Nat → List Tok → R Tr
  | 0, _, _ => .error (0, 0)
  | f + 1, n, l => if (hd l).k = 3 then .ok (ce, l) else if n = 12 then .error (4, (hd l).p) else bnd (fnV l) fun x l1 => bnd (progV f (n + 1) l1) fun g l2 => .ok (cc x g, l2)
theorem par_tail {l l' : List Tok} {t : Tr} (h : parV l = .ok (t, l')) (he : Ends l) : Ends l' ∧ l'.length < l.length := by
  unfold parV at h
  obtain ⟨nm, l1, h1, h⟩ := bnd_ok h
  obtain ⟨e1, s1⟩ := name_tail h1 he
  obtain ⟨_, l2, h2, h⟩ := bnd_ok h
  obtain ⟨e2, s2⟩ := need_tail h2 (by decide) e1
  split at h
  · rename_i h3
    obtain ⟨e3, s3⟩ := tok_tail h3 (by decide) e2
    obtain ⟨_, rfl⟩ := ok_eq h
    exact ⟨e3, by omega⟩
  · obtain ⟨_, l3, h3, h⟩ := bnd_ok h
    obtain ⟨e3, s3⟩ := need_tail h3 (by decide) e2
    obtain ⟨_, rfl⟩ := ok_eq h
    exact ⟨e3, by omega⟩
theorem parl_tail : ∀ (f : Nat) {l l' : List Tok} {t : Tr}, parlV f l = .ok (t, l') → Ends l → Ends l' ∧ l'.length < l.length
  | 0, l, l', t, h, he => by simp [parlV] at h
  | f + 1, l, l', t, h, he => by
    rw [parlV] at h
    obtain ⟨x, l1, h1, h⟩ := bnd_ok h
    obtain ⟨e1, s1⟩ := par_tail h1 he
    split at h
    · rename_i h2
      obtain ⟨e2, s2⟩ := tok_tail h2 (by decide) e1
      obtain ⟨g, l3, h3, h⟩ := bnd_ok h
      obtain ⟨e3, s3⟩ := parl_tail f h3 e2
      obtain ⟨_, rfl⟩ := ok_eq h
      exact ⟨e3, by omega⟩
    · obtain ⟨_, l3, h3, h⟩ := bnd_ok h
      obtain ⟨e3, s3⟩ := need_tail h3 (by decide) e1
      obtain ⟨_, rfl⟩ := ok_eq h
      exact ⟨e3, by omega⟩
theorem pars_tail {l l' : List Tok} {t : Tr} (h : parsV l = .ok (t, l')) (he : Ends l) : Ends l' ∧ l'.length < l.length := by
  unfold parsV at h
  split at h
  · rename_i h2
    obtain ⟨e2, s2⟩ := tok_tail h2 (by decide) he
    obtain ⟨_, rfl⟩ := ok_eq h
    exact ⟨e2, s2⟩
  · exact parl_tail _ h he
theorem fn_tail {l l' : List Tok} {t : Tr} (h : fnV l = .ok (t, l')) (he : Ends l) : Ends l' ∧ l'.length < l.length := by
  unfold fnV at h
  obtain ⟨_, l1, h1, h⟩ := bnd_ok h
  obtain ⟨e1, s1⟩ := need_tail h1 (by decide) he
  obtain ⟨nm, l2, h2, h⟩ := bnd_ok h
  obtain ⟨e2, s2⟩ := name_tail h2 e1
  obtain ⟨_, l3, h3, h⟩ := bnd_ok h
  obtain ⟨e3, s3⟩ := need_tail h3 (by decide) e2
  obtain ⟨ps, l4, h4, h⟩ := bnd_ok h
  obtain ⟨e4, s4⟩ := pars_tail h4 e3
  obtain ⟨b, l5, h5, h⟩ := bnd_ok h
  obtain ⟨e5, s5⟩ := st_ends _ 0 0 l4 b l5 e4 h5
  obtain ⟨_, rfl⟩ := ok_eq h
  exact ⟨e5, by omega⟩

theorem res83 {fn : Func} {p : Tmp} (h : fn.results = #[.cell p 83]) (tmps : Array Value) (w : World) (g : Nat) (a0 a1 : Value) (hp : tmps.getD p undef = .pointer (some ⟨g, 0, none⟩)) (hg : w.heap[g]? = some (.cells #[a0, a1] 83)) :
    (results fn tmps).run Tryz.prog w = .ok (.agg #[a0, a1]) w := by
  rw [results_cell1 h, hp]
  have h1 : (loadVar 83 ⟨g, 0, none⟩).run Tryz.prog w = .ok (.agg #[a0, a1]) w := run_loadVar_row w g 83 83 _ (0, 0) _ hg Tryz.underlying83 rfl (by kernel_rfl)
  simp only [asAddr, Sem.run_pure, Result.andThen_ok, h1]
/-- What param leaves. -/
def PPost (w : World) (P T : Nat) (r : R Tr) (e : Ending) (w' : World) : Prop :=
  (∃ (nm : By) (ty : Int) (l' : List Tok) (o' c' : Nat) (yp : ByteArray), r = .ok (pr nm ty, l') ∧ str nm = .string yp ∧ e = .returned (.agg #[.string yp, .int .i64 ty]) ∧ PS w' P T o' c' l' ∧ Gr P w w') ∨ (∃ k p, r = .error (k, p) ∧ Threw k p e w' ∧ Gr P w w')

set_option maxRecDepth 100000 in
set_option maxHeartbeats 8000000 in
theorem param_walk (d : Nat) (w : World) (P T o c : Nat) (l : List Tok) (h : At w P T o c d l) :
    Calls Tryz.prog 47 #[.pointer (some ⟨P, 0, none⟩)] w (PPost w P T (parV l)) := by
  obtain ⟨y, hy, hyt⟩ := str_y (hd l).t
  have HA : Hid (At w P T o c d l) := h
  have HY : Hid (str (hd l).t = .string y) := hy
  have HG0 : Hid (∀ e w', PPost w P T (parV l) e w' → PPost w P T (parV l) e w') := fun _ _ h => h
  generalize hG : PPost w P T (parV l) = G at *
  clear HG0
  have HG0 : Hid (∀ e w', PPost w P T (parV l) e w' → G e w') := fun e w' h => by rw [← hG]; exact h
  clear h hy hyt hG
  go_enter Tryz.func47, Tryz.ntmps47
  go_wp2_with (go_at_call 44; fail)
  have hbZ : Below w.heap.size w (w.alloc (.cells #[.string ⟨#[]⟩, .int .i64 0] 83)) := (Below.refl _ _).alloc (Nat.le_refl _) _
  refine (nm_at (HA.out.below hbZ)).mono ?_
  rintro e w2 (⟨hv, rfl, hp, hg, he, hlt⟩ | ⟨k, hv, ⟨b, rfl, hb⟩, hg⟩)
  rotate_left
  · refine ⟨rfl, HG0.out _ _ (.inr ⟨k, _, ?_, ⟨b, rfl, hb⟩, (gr_below hbZ).trans hg⟩)⟩
    unfold parV
    rw [hv]
    rfl
  have HN : Hid (nameVv l = .ok ((hd l).t, l.tail)) := hv
  have HR2 : Hid (w2.heap[w.heap.size]? = some (.cells #[.string ⟨#[]⟩, .int .i64 0] 83)) := hg.blk (heap_alloc_last w _) (by have := HA.out.ltP; omega)
  have HG2 : Hid (Gr P w w2) := (gr_below hbZ).trans hg
  have HA2 : Hid (At w2 P T (o + 3) (c - 1) d l.tail) := HA.out.go HG2.out hp he (by have := HA.out.deep; omega)
  rw [HY.out]
  clear hv hp hg he hlt hbZ
  go_wp2_with (go_at_call 43; fail)
  obtain ⟨W2, hW2⟩ : ∃ W2, W2 = w2.alloc (.cells #[.string y, .int .i64 1] 83) := ⟨_, rfl⟩
  obtain ⟨q, hq⟩ : ∃ q, q = w2.heap.size := ⟨_, rfl⟩
  have hlt2 : w.heap.size < w2.heap.size := (Array.getElem?_eq_some_iff.1 HR2.out).1
  have HQ : Hid (w.heap.size < q) := by show _ < _; omega
  have HX3 : Hid (W2.heap[q]? = some (.cells #[.string y, .int .i64 1] 83)) := by show _ = _; rw [hW2, hq]; exact heap_alloc_last w2 _
  have HR3 : Hid (W2.heap[w.heap.size]? = some (.cells #[.string ⟨#[]⟩, .int .i64 0] 83)) := by show _ = _; rw [hW2, row_eq_alloc hlt2]; exact HR2.out
  have HG3 : Hid (Gr P w W2) := by show Gr _ _ _; rw [hW2]; exact HG2.out.alloc _
  have HA3 : Hid (At W2 P T (o + 3) (c - 1) d l.tail) := by show At _ _ _ _ _ _ _; rw [hW2]; exact HA2.out.below ((Below.refl _ _).alloc (Nat.le_refl _) _)
  rw [← hW2, ← hq]
  clear hW2 hq hlt2 HR2 HG2 HA2
  refine (nee_at HA3.out ⟨#[58]⟩ (by decide)).mono ?_
  rintro e w3 (⟨hv, rfl, hp, hg, he, hlt⟩ | ⟨hv, ⟨b, rfl, hb⟩, hg⟩)
  rotate_left
  · refine ⟨rfl, HG0.out _ _ (.inr ⟨_, _, ?_, ⟨b, rfl, hb⟩, HG3.out.trans hg⟩)⟩
    have hv' : needV [58] l.tail = _ := hv
    unfold parV
    rw [HN.out]
    show bnd (needV [58] l.tail) _ = _
    rw [hv']
    rfl
  have HV3 : Hid (needV [58] l.tail = .ok ((), l.tail.tail)) := hv
  have HX4 : Hid (w3.heap[q]? = some (.cells #[.string y, .int .i64 1] 83)) := hg.blk HX3.out (by have := HQ.out; have := HA.out.ltP; omega)
  have HR4 : Hid (w3.heap[w.heap.size]? = some (.cells #[.string ⟨#[]⟩, .int .i64 0] 83)) := hg.blk HR3.out (by have := HA.out.ltP; omega)
  have HG4 : Hid (Gr P w w3) := HG3.out.trans hg
  have HA4 : Hid (At w3 P T (o + 3 + 3) (c - 1 - 1) d l.tail.tail) := HA.out.go HG4.out hp he (by have := HA3.out.deep; omega)
  clear hv hp hg he hlt HX3 HR3 HG3 HA3
  go_wp2_with (go_at_call 45; fail)
  refine (acc_at HA4.out ⟨#[97, 114, 114]⟩ (by decide)).mono ?_
  rintro e w4 (⟨hv, rfl, hp, hg, he, hlt⟩ | ⟨hv, rfl, hb⟩)
  · have hx5 := hg.blk HX4.out (by have := HQ.out; have := HA.out.ltP; omega)
    have hr5 := hg.blk HR4.out (by have := HA.out.ltP; omega)
    have f1 := row_free hx5 1
    have c0 := cell_at (i := 0) hx5 rfl
    have c1 := cell_at (i := 1) hx5 rfl
    have rf := row_free hr5
    have r0 := cell_at (i := 0) hr5 rfl
    have r1 := cell_at (i := 1) hr5 rfl
    have hne : ¬ w.heap.size = q := by have := HQ.out; omega
    have hne2 : ¬ q = w.heap.size := by have := HQ.out; omega
    have HR5 : Hid ((w4.setCell ⟨q, 1, none⟩ (.int .i64 2)).heap[w.heap.size]? = some (.cells #[.string ⟨#[]⟩, .int .i64 0] 83)) := by
      show _ = _
      rw [heap_setCell_other _ _ _ _ (by show w.heap.size ≠ q; omega)]
      exact hr5
    have HP5 : Hid (PS (w4.setCell ⟨q, 1, none⟩ (.int .i64 2)) P T (o + 3 + 3 + 3) (c - 1 - 1 - 1) l.tail.tail.tail) := hp.set (by have := HQ.out; have := HA.out.ltP; omega) (by have := HQ.out; have := HA.out.ltT; omega)
    have HG5 : Hid (Gr P w (w4.setCell ⟨q, 1, none⟩ (.int .i64 2))) := (HG4.out.trans hg).set (by have := HQ.out; omega)
    have HV5 : Hid ((hd l.tail.tail).t = [97, 114, 114]) := hv
    clear hx5 hr5 hv hp hg he hlt HX4 HR4
    go_wp2
    try simp only [Exit.inBlock, Exit.then]
    refine bodyPost_ret (res83 Tryz.results47 _ _ w.heap.size (.string y) (.int .i64 2) rfl (heap_setCell_same _ _ _ _ _ _ (heap_setCell_same _ _ _ _ _ _ HR5.out))) rfl (HG0.out _ _ (.inl ⟨(hd l).t, 2, l.tail.tail.tail, _, _, y, ?_, HY.out, rfl, (HP5.out.set HA.out.ltP HA.out.ltT).set HA.out.ltP HA.out.ltT, (HG5.out.set (Nat.le_refl _)).set (Nat.le_refl _)⟩))
    unfold parV
    rw [HN.out]
    show bnd (needV [58] l.tail) _ = _
    rw [HV3.out]
    show (if (hd l.tail.tail).t = [97, 114, 114] then _ else _) = _
    rw [if_pos HV5.out]
  · have hg : Gr P w3 w4 := gr_below hb
    have HX5 : Hid (w4.heap[q]? = some (.cells #[.string y, .int .i64 1] 83)) := hg.blk HX4.out (by have := HQ.out; have := HA.out.ltP; omega)
    have HR5 : Hid (w4.heap[w.heap.size]? = some (.cells #[.string ⟨#[]⟩, .int .i64 0] 83)) := hg.blk HR4.out (by have := HA.out.ltP; omega)
    have HG5 : Hid (Gr P w w4) := HG4.out.trans hg
    have HA5 : Hid (At w4 P T (o + 3 + 3) (c - 1 - 1) d l.tail.tail) := HA4.out.below hb
    have HV5 : Hid (¬ (hd l.tail.tail).t = [97, 114, 114]) := hv
    clear hv hb hg HX4 HR4 HG4 HA4
    go_wp2_with (go_at_call 43; fail)
    refine (nee_at HA5.out ⟨#[105, 110, 116]⟩ (by decide)).mono ?_
    rintro e w5 (⟨hv, rfl, hp, hg, he, hlt⟩ | ⟨hv, ⟨b, rfl, hb⟩, hg⟩)
    rotate_left
    · refine ⟨rfl, HG0.out _ _ (.inr ⟨_, _, ?_, ⟨b, rfl, hb⟩, HG5.out.trans hg⟩)⟩
      have hv' : needV [105, 110, 116] l.tail.tail = _ := hv
      unfold parV
      rw [HN.out]
      show bnd (needV [58] l.tail) _ = _
      rw [HV3.out]
      show (if (hd l.tail.tail).t = [97, 114, 114] then _ else bnd (needV [105, 110, 116] l.tail.tail) _) = _
      rw [if_neg HV5.out, hv']
      rfl
    have hx6 := hg.blk HX5.out (by have := HQ.out; have := HA.out.ltP; omega)
    have hr6 := hg.blk HR5.out (by have := HA.out.ltP; omega)
    have c0 := cell_at (i := 0) hx6 rfl
    have c1 := cell_at (i := 1) hx6 rfl
    have rf := row_free hr6
    have r0 := cell_at (i := 0) hr6 rfl
    have r1 := cell_at (i := 1) hr6 rfl
    have hne : ¬ w.heap.size = q := by have := HQ.out; omega
    have hne2 : ¬ q = w.heap.size := by have := HQ.out; omega
    have HR6 : Hid (w5.heap[w.heap.size]? = some (.cells #[.string ⟨#[]⟩, .int .i64 0] 83)) := hr6
    have HP6 : Hid (PS w5 P T (o + 3 + 3 + 3) (c - 1 - 1 - 1) l.tail.tail.tail) := hp
    have HG6 : Hid (Gr P w w5) := HG5.out.trans hg
    have HV6 : Hid (needV [105, 110, 116] l.tail.tail = .ok ((), l.tail.tail.tail)) := hv
    clear hx6 hr6 hv hp hg he hlt HX5 HR5
    go_wp2
    try simp only [Exit.inBlock, Exit.then]
    refine bodyPost_ret (res83 Tryz.results47 _ _ w.heap.size (.string y) (.int .i64 1) rfl (heap_setCell_same _ _ _ _ _ _ (heap_setCell_same _ _ _ _ _ _ HR6.out))) rfl (HG0.out _ _ (.inl ⟨(hd l).t, 1, l.tail.tail.tail, _, _, y, ?_, HY.out, rfl, (HP6.out.set HA.out.ltP HA.out.ltT).set HA.out.ltP HA.out.ltT, (HG6.out.set (Nat.le_refl _)).set (Nat.le_refl _)⟩))
    unfold parV
    rw [HN.out]
    show bnd (needV [58] l.tail) _ = _
    rw [HV3.out]
    show (if (hd l.tail.tail).t = [97, 114, 114] then _ else bnd (needV [105, 110, 116] l.tail.tail) _) = _
    rw [if_neg HV5.out, HV6.out]
    rfl
end Go.Proofs.YtpakgaegckkmnaaGreatDoor
