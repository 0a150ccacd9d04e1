/- UE -/
import Derived.Test.YtnfhpdbbfejioaaGreatDoorE10
namespace Go.Proofs.YtnfhpdbbfejioaaGreatDoor
set_option linter.unusedVariables false
set_option linter.unusedSimpArgs false
set_option maxRecDepth 100000
set_option maxHeartbeats 16000000
open Go Go.RowKit
theorem Env.of_set {w : World} {q i : Nat} {v : Value} (h : Env w) (hq : 14 ≤ q) : Env (w.setCell ⟨q, i, none⟩ v) := by
 have hg : Gr q w (w.setCell ⟨q, i, none⟩ v) := ⟨rfl, rfl, rfl, by simp, fun k hk hne => heap_setCell_other _ _ _ _ (by show k ≠ q; intro e; exact hne (by rw [e]))⟩
 exact h.gr hg hq
structure SW (w : World) (P T q m : Nat) (cs : Array Value) (o c d : Nat) (l : List Tok) (W : World) : Prop where
 i : StI w P q cs W
 a : At W P T o c d l
 lt : q < m
 le : m ≤ W.heap.size
 ltT : T < w.heap.size
theorem SW.set {w W : World} {P T q m o c d : Nat} {cs : Array Value} {l : List Tok} (h : SW w P T q m cs o c d l W) (i : Nat) (v : Value) : SW w P T q m (cs.setIfInBounds i v) o c d l (W.setCell ⟨q, i, none⟩ v) := by
 have hg : Gr P w (W.setCell ⟨q, i, none⟩ v) := (h.i.set i v).gr
 have hP := h.i.ltP
 have hq := h.i.ltq
 have hT := h.ltT
 refine ⟨h.i.set i v, ⟨?_, h.a.ps.set (by omega) (by omega), h.a.ends, h.a.far, h.a.deep⟩, h.lt, by simp; exact h.le, hT⟩
 exact h.a.env.of_set (by have := h.a.far; omega)
theorem SW.go {w W W' : World} {P T q m o c d o' c' : Nat} {cs : Array Value} {l l' : List Tok} (h : SW w P T q m cs o c d l W) (hg : Gr P W W') (hp : PS W' P T o' c' l') (he : Ends l') (hl : l'.length ≤ l.length) : SW w P T q m cs o' c' d l' W' :=
 ⟨h.i.go hg, h.a.go hg hp he (by have := h.a.deep; omega), h.lt, Nat.le_trans h.le hg.size, h.ltT⟩
theorem SW.kset {w W : World} {P T q m o c d : Nat} {cs : Array Value} {l : List Tok} (h : SW w P T q m cs o c d l W) (i : Nat) (v : Value) : Keeps (Fr m) W (W.setCell ⟨q, i, none⟩ v) := Keeps.set h.lt
theorem SW.kgo {w W W' : World} {P T q m o c d : Nat} {cs : Array Value} {l : List Tok} (h : SW w P T q m cs o c d l W) (hg : Gr P W W') : Keeps (Fr m) W W' := Keeps.gr h.a.ps hg
theorem st_full {S : Nat → Prop} {w : World} {c a : Int} {nm : By} {ix v th el : Tr} {vi vv : Option Addr} {vt ve : Value} {nt ne : Nat} {ts es : List Value} (hi : ExAt S w ix (.pointer vi)) (hv : ExAt S w v (.pointer vv)) (ht : RowS S w 147 7 vt nt ts) (hth : StAt S w th ts) (he : RowS S w 147 7 ve ne es) (hel : StAt S w el es) : StAt S w (cc (st c a nm ix v th el) ce) [.int .i64 c, .int .i64 a, str nm, .pointer vi, .pointer vv, vt, ve] := by
 rw [StAt]
 exact ⟨vi, vv, vt, ve, nt, ne, ts, es, [], rfl, hi, hv, ht, hth, he, hel, st_none S w⟩
theorem row_fr {w : World} {m B n : Nat} {v : Value} {cs : List Value} (h : w.ownsRow B 147 7 v n cs) (hb : m ≤ B) : RowS (Fr m) w 147 7 v n cs := ⟨own_mono h (Nat.zero_le _), fun i hi => Nat.le_trans hb (h.lt i hi).1⟩
theorem stmt_rest (f : Nat) (IB : BlkC f) (d : Nat) (w : World) (P T o c : Nat) (l : List Tok) (h : At w P T o c d l) (hn : 3 * l.length ≤ f + 1) (hk : (hd l).k ≠ 0) :
  Calls Tryz.prog 149 #[.pointer (some ⟨P, 0, none⟩), .int .i64 (d : Int)] w (SPost w P T (stV (f + 1) 2 d l)) := by
 obtain ⟨y, hy, hyt⟩ := zM (hd l).t
 have HF : Hid (∀ W, Below w.heap.size w W → Calls Tryz.prog 59 #[.pointer (some ⟨P, 0, none⟩)] W fun e w' => e = .returned (.agg #[.int .i64 ((hd l).k : Int), .string y, .int .i64 ((hd l).p : Int)]) ∧ Below w.heap.size w w' ∧ Gr P W w') := fun W hb => by
  have hA := h.below hb
  have := qB W P T o c (hd l) l.tail hA.psc y hy
  exact this.mono fun e w' ⟨a, b⟩ => ⟨a, hb.trans (b.mono hb.size), ze b⟩
 have HA : Hid (At w P T o c d l) := h
 have HN : Hid (3 * l.length ≤ f + 1) := hn
 have HIB : Hid (BlkC f) := IB
 have bk : (((hd l).k : Int) == 0) = false := by simp; omega
 have HM : Hid (stV (f + 1) 2 d l = (
  if (hd l).t = [118, 97, 114] then bnd (zQ l.tail) fun nm l1 => bnd (zh [61] l1) fun _ l2 => bnd (zW l2) fun v l3 => bnd (zh [59] l3) fun _ l4 => .ok (st 1 (hd l).p nm .nil v ce ce, l4)
  else if (hd l).t = [114, 101, 116, 117, 114, 110] then bnd (zW l.tail) fun v l3 => bnd (zh [59] l3) fun _ l4 => .ok (st 6 (hd l).p [] .nil v ce ce, l4)
  else if (hd l).t = [112, 114, 105, 110, 116] then bnd (zW l.tail) fun v l3 => bnd (zh [59] l3) fun _ l4 => .ok (st 7 (hd l).p [] .nil v ce ce, l4)
  else if (hd l).t = [105, 102] then bnd (heldV l.tail) fun v l1 => bnd (stV f 0 d l1) fun th l2 =>
   if (hd l2).t = [101, 108, 115, 101] then bnd (stV f 0 d l2.tail) fun el l3 => .ok (st 4 (hd l).p [] .nil v th el, l3) else .ok (st 4 (hd l).p [] .nil v th ce, l2)
  else if (hd l).t = [119, 104, 105, 108, 101] then bnd (heldV l.tail) fun v l1 => bnd (stV f 0 d l1) fun th l2 => .ok (st 5 (hd l).p [] .nil v th ce, l2)
  else .error (3, (hd l).p))) := by
  show _ = _
  rw [stV, if_neg hk]
 have HG0 : Hid (∀ e w', SPost w P T (stV (f + 1) 2 d l) e w' → SPost w P T (stV (f + 1) 2 d l) e w') := fun _ _ h => h
 generalize hG : SPost w P T (stV (f + 1) 2 d l) = G at *
 clear HG0
 have HG0 : Hid (∀ e w', SPost w P T (stV (f + 1) 2 d l) e w' → G e w') := fun e w' h => by rw [← hG]; exact h
 have h0 := fld0
 have h2 := fld2
 clear h hk hy hyt hG hn IB
 go_enter Tryz.func149, Tryz.ntmps149
 go_wp2_with (go_at_call 59; fail)
 refine (HF.out _ ((Below.refl _ _).alloc (Nat.le_refl _) _)).mono ?_
 rintro e w1 ⟨rfl, hb, hg⟩
 have HR1 : Hid (w1.heap[w.heap.size]? = some (.cells #[.int .i64 0, .int .i64 0, .string ⟨#[]⟩, .pointer none, .pointer none, .slice none 0 0, .slice none 0 0] 147)) := hg.blk (heap_alloc_last w _) (by have := HA.out.ltP; omega)
 have HB1 : Hid (Below w.heap.size w w1) := hb
 have HZ1 : Hid (Gr P (w.alloc (.cells #[.int .i64 0, .int .i64 0, .string ⟨#[]⟩, .pointer none, .pointer none, .slice none 0 0, .slice none 0 0] 147)) w1) := hg
 clear hb hg
 go_wp2_with (go_at_call 59; fail)
 obtain ⟨W1, hW1⟩ : ∃ W1, W1 = w1.alloc (.cells #[.int .i64 0, .int .i64 ((hd l).p : Int), .string ⟨#[]⟩, .pointer none, .pointer none, .slice none 0 0, .slice none 0 0] 147) := ⟨_, rfl⟩
 obtain ⟨q, hq⟩ : ∃ q, q = w1.heap.size := ⟨_, rfl⟩
 have hsz1 : w.heap.size < w1.heap.size := (Array.getElem?_eq_some_iff.1 HR1.out).1
 have HI1 : Hid (StI w P q #[.int .i64 0, .int .i64 ((hd l).p : Int), .string ⟨#[]⟩, .pointer none, .pointer none, .slice none 0 0, .slice none 0 0] W1) := by
  refine ⟨?_, ?_, ?_, by omega, HA.out.ltP⟩
  ·rw [hW1, zc hsz1]; exact HR1.out
  ·rw [hW1, hq]; exact heap_alloc_last w1 _
  ·rw [hW1]; exact (ze HB1.out).alloc _
 have HZ2 : Hid (Gr P (w.alloc (.cells #[.int .i64 0, .int .i64 0, .string ⟨#[]⟩, .pointer none, .pointer none, .slice none 0 0, .slice none 0 0] 147)) W1) := by
  show Gr _ _ _
  rw [hW1]
  exact HZ1.out.alloc _
 have HBW : Hid (Below w.heap.size w W1) := by
  show Below _ _ _
  rw [hW1]
  exact HB1.out.alloc HB1.out.size _
 rw [← hW1, ← hq]
 clear hW1 hq hsz1 HB1 HR1 HZ1
 refine (HF.out _ HBW.out).mono ?_
 rintro e w2 ⟨rfl, hb, hg⟩
 have HI2 : Hid (StI w P q #[.int .i64 0, .int .i64 ((hd l).p : Int), .string ⟨#[]⟩, .pointer none, .pointer none, .slice none 0 0, .slice none 0 0] w2) := HI1.out.go hg
 have HA2 : Hid (At w2 P T o c d l) := HA.out.below hb
 have HZ3 : Hid (Gr P (w.alloc (.cells #[.int .i64 0, .int .i64 0, .string ⟨#[]⟩, .pointer none, .pointer none, .slice none 0 0, .slice none 0 0] 147)) w2) := HZ2.out.trans hg
 clear hb hg HI1 HBW HZ2 HZ3
 go_wp2_with (go_at_call 94; fail)
 have hm0 := HI2.out.lt
 obtain ⟨m, hm⟩ : ∃ m, m = w2.heap.size := ⟨_, rfl⟩
 have HS0 : Hid (SW w P T q m #[.int .i64 0, .int .i64 ((hd l).p : Int), .string ⟨#[]⟩, .pointer none, .pointer none, .slice none 0 0, .slice none 0 0] o c d l w2) := ⟨HI2.out, HA2.out, by omega, by omega, HA.out.ltT⟩
 clear hm hm0 HI2 HA2
 refine (qH HS0.out.a ⟨#[118, 97, 114]⟩ (by decide)).mono ?_
 rintro e x0 (⟨hv, rfl, hp, hg, he, hlt⟩ | ⟨hv, rfl, hb⟩)
 ·have HYes : Hid ((hd l).t = [118, 97, 114]) := hv
  have HS1 : Hid (SW w P T q m #[.int .i64 0, .int .i64 ((hd l).p : Int), .string ⟨#[]⟩, .pointer none, .pointer none, .slice none 0 0, .slice none 0 0] (o + 3) (c - 1) d (l.tail) x0) := HS0.out.go hg hp he (Nat.le_of_lt hlt)
  have HL0 : Hid ((l.tail).length < l.length) := hlt
  clear hv hp hg he hlt HS0
  have f0 := zb HS1.out.i.blk 0
  have c0 := z_ (i := 0) HS1.out.i.blk rfl
  go_wp2_with (go_at_call 93; fail)
  obtain ⟨V2, hV3⟩ : ∃ X, X = x0.setCell ⟨q, 0, none⟩ (.int .i64 1) := ⟨_, rfl⟩
  have HS4 : Hid (SW w P T q m #[.int .i64 1, .int .i64 ((hd l).p : Int), .string ⟨#[]⟩, .pointer none, .pointer none, .slice none 0 0, .slice none 0 0] (o + 3) (c - 1) d (l.tail) V2) := by
   show SW _ _ _ _ _ _ _ _ _ _ _
   rw [hV3]
   exact HS1.out.set 0 _
  rw [← hV3]
  clear hV3 HS1 f0 c0
  obtain ⟨z, hz, hzt⟩ := zM (hd l.tail).t
  have HZ : Hid (str (hd l.tail).t = .string z) := hz
  clear hz hzt
  refine (nm_at HS4.out.a).mono ?_
  rintro e u5 (⟨hv, rfl, hp, hg, he, hlt⟩ | ⟨k, hv, ⟨b, rfl, hb⟩, hg⟩)
  rotate_left
  ·refine ⟨rfl, HG0.out _ _ (.inr ⟨k, _, ?_, ⟨b, rfl, hb⟩, HS4.out.i.gr.trans hg⟩)⟩
   rw [HM.out, if_pos HYes.out]
   rw [hv]
   all_goals rfl
  have HNm : Hid (zQ l.tail = .ok ((hd l.tail).t, l.tail.tail)) := hv
  have HS6 : Hid (SW w P T q m #[.int .i64 1, .int .i64 ((hd l).p : Int), .string ⟨#[]⟩, .pointer none, .pointer none, .slice none 0 0, .slice none 0 0] ((o + 3) + 3) ((c - 1) - 1) d (l.tail.tail) u5) := HS4.out.go hg hp he (Nat.le_of_lt hlt)
  have HL1 : Hid (l.tail.tail.length < l.tail.length) := hlt
  rw [HZ.out]
  clear hv hp hg he hlt HS4
  have f2 := zb HS6.out.i.blk 2
  have c2 := z_ (i := 2) HS6.out.i.blk rfl
  go_wp2_with (go_at_call 92; fail)
  obtain ⟨V7, hV8⟩ : ∃ X, X = u5.setCell ⟨q, 2, none⟩ (.string z) := ⟨_, rfl⟩
  have HS9 : Hid (SW w P T q m #[.int .i64 1, .int .i64 ((hd l).p : Int), .string z, .pointer none, .pointer none, .slice none 0 0, .slice none 0 0] ((o + 3) + 3) ((c - 1) - 1) d (l.tail.tail) V7) := by
   show SW _ _ _ _ _ _ _ _ _ _ _
   rw [hV8]
   exact HS6.out.set 2 _
  rw [← hV8]
  clear hV8 HS6 f2 c2
  refine (nee_at HS9.out.a ⟨#[61]⟩ (by decide)).mono ?_
  rintro e u10 (⟨hv, rfl, hp, hg, he, hlt⟩ | ⟨hv, ⟨b, rfl, hb⟩, hg⟩)
  rotate_left
  ·refine ⟨rfl, HG0.out _ _ (.inr ⟨_, _, ?_, ⟨b, rfl, hb⟩, HS9.out.i.gr.trans hg⟩)⟩
   have hv' : zh [61] (l.tail.tail) = _ := hv
   rw [HM.out, if_pos HYes.out]
   rw [HNm.out]
   show bnd (zh [61] l.tail.tail) _ = _
   rw [hv']
   all_goals rfl
  have HV11 : Hid (zh [61] (l.tail.tail) = .ok ((), ((l.tail.tail)).tail)) := hv
  have HS12 : Hid (SW w P T q m #[.int .i64 1, .int .i64 ((hd l).p : Int), .string z, .pointer none, .pointer none, .slice none 0 0, .slice none 0 0] (((o + 3) + 3) + 3) (((c - 1) - 1) - 1) d ((l.tail.tail).tail) u10) := HS9.out.go hg hp he (Nat.le_of_lt hlt)
  have HL13 : Hid (((l.tail.tail)).tail.length < ((l.tail.tail)).length) := hlt
  clear hv hp hg he hlt HS9
  go_wp2_with (go_at_call 206; fail)
  refine (expr_at HS12.out.a).mono ?_
  intro e u14 hpost
  rcases hpost.parts with ⟨t15, l16, v17, o18, c19, hr, rfl, hx, hp, hg⟩ | ⟨k, p, hr, ⟨b, rfl, hb⟩, hg⟩
  rotate_left
  ·refine ⟨rfl, HG0.out _ _ (.inr ⟨k, p, ?_, ⟨b, rfl, hb⟩, HS12.out.i.gr.trans hg⟩)⟩
   rw [HM.out, if_pos HYes.out]
   rw [HNm.out]
   show bnd (zh [61] l.tail.tail) _ = _
   rw [HV11.out]
   show bnd (zW ((l.tail.tail).tail)) _ = _
   rw [hr]
   all_goals rfl
  obtain ⟨b20, rfl⟩ := expr_ptr hr hx
  obtain ⟨he, hlt⟩ := qu hr HS12.out.a.ends
  have HR21 : Hid (zW ((l.tail.tail).tail) = .ok (t15, l16)) := hr
  have HX22 : Hid (ExAt (Fr m) u14 t15 (.pointer (some ⟨b20, 0, none⟩))) := hx.old HS12.out.le
  have HS23 : Hid (SW w P T q m #[.int .i64 1, .int .i64 ((hd l).p : Int), .string z, .pointer none, .pointer none, .slice none 0 0, .slice none 0 0] (o18) (c19) d (l16) u14) := HS12.out.go hg hp he (Nat.le_of_lt hlt)
  have HL24 : Hid (l16.length < (((l.tail.tail).tail)).length) := hlt
  clear hpost hr hx hp hg he hlt HS12
  have f4 := zb HS23.out.i.blk 4
  have c4 := z_ (i := 4) HS23.out.i.blk rfl
  go_wp2_with (go_at_call 92; fail)
  obtain ⟨V25, hV26⟩ : ∃ X, X = u14.setCell ⟨q, 4, none⟩ (.pointer (some ⟨b20, 0, none⟩)) := ⟨_, rfl⟩
  have HS27 : Hid (SW w P T q m #[.int .i64 1, .int .i64 ((hd l).p : Int), .string z, .pointer none, .pointer (some ⟨b20, 0, none⟩), .slice none 0 0, .slice none 0 0] (o18) (c19) d (l16) V25) := by
   show SW _ _ _ _ _ _ _ _ _ _ _
   rw [hV26]
   exact HS23.out.set 4 _
  have HX28 : Hid (ExAt (Fr m) V25 t15 (.pointer (some ⟨b20, 0, none⟩))) := by
   show ExAt _ _ _ _
   rw [hV26]
   exact (HS23.out.kset 4 _).ex HX22.out
  rw [← hV26]
  clear hV26 HS23 f4 c4 HX22
  refine (nee_at HS27.out.a ⟨#[59]⟩ (by decide)).mono ?_
  rintro e u29 (⟨hv, rfl, hp, hg, he, hlt⟩ | ⟨hv, ⟨b, rfl, hb⟩, hg⟩)
  rotate_left
  ·refine ⟨rfl, HG0.out _ _ (.inr ⟨_, _, ?_, ⟨b, rfl, hb⟩, HS27.out.i.gr.trans hg⟩)⟩
   have hv' : zh [59] (l16) = _ := hv
   rw [HM.out, if_pos HYes.out]
   rw [HNm.out]
   show bnd (zh [61] l.tail.tail) _ = _
   rw [HV11.out]
   show bnd (zW ((l.tail.tail).tail)) _ = _
   rw [HR21.out]
   show bnd (zh [59] (l16)) _ = _
   rw [hv']
   all_goals rfl
  have HV30 : Hid (zh [59] (l16) = .ok ((), ((l16)).tail)) := hv
  have HS31 : Hid (SW w P T q m #[.int .i64 1, .int .i64 ((hd l).p : Int), .string z, .pointer none, .pointer (some ⟨b20, 0, none⟩), .slice none 0 0, .slice none 0 0] ((o18) + 3) ((c19) - 1) d ((l16).tail) u29) := HS27.out.go hg hp he (Nat.le_of_lt hlt)
  have HX32 : Hid (ExAt (Fr m) u29 t15 (.pointer (some ⟨b20, 0, none⟩))) := (HS27.out.kgo hg).ex HX28.out
  have HL33 : Hid (((l16)).tail.length < ((l16)).length) := hlt
  clear hv hp hg he hlt HS27 HX28
  obtain ⟨q0, q1, q2, q3, q4, q5, q6⟩ := HS31.out.i.cells
  obtain ⟨r0, r1, r2, r3, r4, r5, r6, rf⟩ := HS31.out.i.rcells
  have hne : ¬ w.heap.size = q := by have := HS31.out.i.ltq; omega
  have hne2 : ¬ q = w.heap.size := by have := HS31.out.i.ltq; omega
  go_wp2
  try simp only [Exit.inBlock, Exit.then]
  have hX : StAt (Fr m) u29 (cc (st 1 ((hd l).p : Int) (hd l.tail).t .nil t15 ce ce) ce) (#[.int .i64 1, .int .i64 ((hd l).p : Int), .string z, .pointer none, .pointer (some ⟨b20, 0, none⟩), .slice none 0 0, .slice none 0 0]).toList := by
    show StAt _ _ _ [.int .i64 1, .int .i64 ((hd l).p : Int), .string z, .pointer none, .pointer (some ⟨b20, 0, none⟩), .slice none 0 0, .slice none 0 0]
    rw [← HZ.out]
    exact st_plain (qj _ _) HX32.out
  obtain ⟨g1, g2, g3, g4⟩ := st_fin HS31.out.i (Nat.lt_of_lt_of_le HS31.out.i.ltq (Nat.le_of_lt HS31.out.lt)) hX HS31.out.a.ps HA.out.ltT
  refine bodyPost_ret (resSt Tryz.results149 _ _ w.heap.size _ _ _ _ _ _ _ rfl g1) rfl (HG0.out _ _ (.inl ⟨_, _, _, _, _, ?_, rfl, g2, g3, g4⟩))
  rw [HM.out, if_pos HYes.out]
  rw [HNm.out]
  show bnd (zh [61] l.tail.tail) _ = _
  rw [HV11.out]
  show bnd (zW ((l.tail.tail).tail)) _ = _
  rw [HR21.out]
  show bnd (zh [59] (l16)) _ = _
  rw [HV30.out]
  all_goals rfl
 have HNo0 : Hid (¬ (hd l).t = [118, 97, 114]) := hv
 have hg : Gr P w2 x0 := ze hb
 have hp := HS0.out.a.ps.below hb
 have he := HS0.out.a.ends
 have HS34 : Hid (SW w P T q m #[.int .i64 0, .int .i64 ((hd l).p : Int), .string ⟨#[]⟩, .pointer none, .pointer none, .slice none 0 0, .slice none 0 0] (o) (c) d (l) x0) := HS0.out.go hg hp he (Nat.le_refl _)
 clear hv hb hp hg he HS0
 go_wp2_with (go_at_call 94; fail)
 refine (qH HS34.out.a ⟨#[114, 101, 116, 117, 114, 110]⟩ (by decide)).mono ?_
 rintro e x1 (⟨hv, rfl, hp, hg, he, hlt⟩ | ⟨hv, rfl, hb⟩)
 ·have HYes : Hid ((hd l).t = [114, 101, 116, 117, 114, 110]) := hv
  have HS35 : Hid (SW w P T q m #[.int .i64 0, .int .i64 ((hd l).p : Int), .string ⟨#[]⟩, .pointer none, .pointer none, .slice none 0 0, .slice none 0 0] (o + 3) (c - 1) d (l.tail) x1) := HS34.out.go hg hp he (Nat.le_of_lt hlt)
  have HL0 : Hid ((l.tail).length < l.length) := hlt
  clear hv hp hg he hlt HS34
  have f0 := zb HS35.out.i.blk 0
  have c0 := z_ (i := 0) HS35.out.i.blk rfl
  go_wp2_with (go_at_call 206; fail)
  obtain ⟨V36, hV37⟩ : ∃ X, X = x1.setCell ⟨q, 0, none⟩ (.int .i64 6) := ⟨_, rfl⟩
  have HS38 : Hid (SW w P T q m #[.int .i64 6, .int .i64 ((hd l).p : Int), .string ⟨#[]⟩, .pointer none, .pointer none, .slice none 0 0, .slice none 0 0] (o + 3) (c - 1) d (l.tail) V36) := by
   show SW _ _ _ _ _ _ _ _ _ _ _
   rw [hV37]
   exact HS35.out.set 0 _
  rw [← hV37]
  clear hV37 HS35 f0 c0
  refine (expr_at HS38.out.a).mono ?_
  intro e u39 hpost
  rcases hpost.parts with ⟨t40, l41, v42, o43, c44, hr, rfl, hx, hp, hg⟩ | ⟨k, p, hr, ⟨b, rfl, hb⟩, hg⟩
  rotate_left
  ·refine ⟨rfl, HG0.out _ _ (.inr ⟨k, p, ?_, ⟨b, rfl, hb⟩, HS38.out.i.gr.trans hg⟩)⟩
   rw [HM.out, if_neg HNo0.out, if_pos HYes.out]
   show bnd (zW (l.tail)) _ = _
   rw [hr]
   all_goals rfl
  obtain ⟨b45, rfl⟩ := expr_ptr hr hx
  obtain ⟨he, hlt⟩ := qu hr HS38.out.a.ends
  have HR46 : Hid (zW (l.tail) = .ok (t40, l41)) := hr
  have HX47 : Hid (ExAt (Fr m) u39 t40 (.pointer (some ⟨b45, 0, none⟩))) := hx.old HS38.out.le
  have HS48 : Hid (SW w P T q m #[.int .i64 6, .int .i64 ((hd l).p : Int), .string ⟨#[]⟩, .pointer none, .pointer none, .slice none 0 0, .slice none 0 0] (o43) (c44) d (l41) u39) := HS38.out.go hg hp he (Nat.le_of_lt hlt)
  have HL49 : Hid (l41.length < ((l.tail)).length) := hlt
  clear hpost hr hx hp hg he hlt HS38
  have f4 := zb HS48.out.i.blk 4
  have c4 := z_ (i := 4) HS48.out.i.blk rfl
  go_wp2_with (go_at_call 92; fail)
  obtain ⟨V50, hV51⟩ : ∃ X, X = u39.setCell ⟨q, 4, none⟩ (.pointer (some ⟨b45, 0, none⟩)) := ⟨_, rfl⟩
  have HS52 : Hid (SW w P T q m #[.int .i64 6, .int .i64 ((hd l).p : Int), .string ⟨#[]⟩, .pointer none, .pointer (some ⟨b45, 0, none⟩), .slice none 0 0, .slice none 0 0] (o43) (c44) d (l41) V50) := by
   show SW _ _ _ _ _ _ _ _ _ _ _
   rw [hV51]
   exact HS48.out.set 4 _
  have HX53 : Hid (ExAt (Fr m) V50 t40 (.pointer (some ⟨b45, 0, none⟩))) := by
   show ExAt _ _ _ _
   rw [hV51]
   exact (HS48.out.kset 4 _).ex HX47.out
  rw [← hV51]
  clear hV51 HS48 f4 c4 HX47
  refine (nee_at HS52.out.a ⟨#[59]⟩ (by decide)).mono ?_
  rintro e u54 (⟨hv, rfl, hp, hg, he, hlt⟩ | ⟨hv, ⟨b, rfl, hb⟩, hg⟩)
  rotate_left
  ·refine ⟨rfl, HG0.out _ _ (.inr ⟨_, _, ?_, ⟨b, rfl, hb⟩, HS52.out.i.gr.trans hg⟩)⟩
   have hv' : zh [59] (l41) = _ := hv
   rw [HM.out, if_neg HNo0.out, if_pos HYes.out]
   show bnd (zW (l.tail)) _ = _
   rw [HR46.out]
   show bnd (zh [59] (l41)) _ = _
   rw [hv']
   all_goals rfl
  have HV55 : Hid (zh [59] (l41) = .ok ((), ((l41)).tail)) := hv
  have HS56 : Hid (SW w P T q m #[.int .i64 6, .int .i64 ((hd l).p : Int), .string ⟨#[]⟩, .pointer none, .pointer (some ⟨b45, 0, none⟩), .slice none 0 0, .slice none 0 0] ((o43) + 3) ((c44) - 1) d ((l41).tail) u54) := HS52.out.go hg hp he (Nat.le_of_lt hlt)
  have HX57 : Hid (ExAt (Fr m) u54 t40 (.pointer (some ⟨b45, 0, none⟩))) := (HS52.out.kgo hg).ex HX53.out
  have HL58 : Hid (((l41)).tail.length < ((l41)).length) := hlt
  clear hv hp hg he hlt HS52 HX53
  obtain ⟨q0, q1, q2, q3, q4, q5, q6⟩ := HS56.out.i.cells
  obtain ⟨r0, r1, r2, r3, r4, r5, r6, rf⟩ := HS56.out.i.rcells
  have hne : ¬ w.heap.size = q := by have := HS56.out.i.ltq; omega
  have hne2 : ¬ q = w.heap.size := by have := HS56.out.i.ltq; omega
  go_wp2
  try simp only [Exit.inBlock, Exit.then]
  have hX : StAt (Fr m) u54 (cc (st 6 ((hd l).p : Int) [] .nil t40 ce ce) ce) (#[.int .i64 6, .int .i64 ((hd l).p : Int), .string ⟨#[]⟩, .pointer none, .pointer (some ⟨b45, 0, none⟩), .slice none 0 0, .slice none 0 0]).toList := st_plain (nm := []) (qj _ _) HX57.out
  obtain ⟨g1, g2, g3, g4⟩ := st_fin HS56.out.i (Nat.lt_of_lt_of_le HS56.out.i.ltq (Nat.le_of_lt HS56.out.lt)) hX HS56.out.a.ps HA.out.ltT
  refine bodyPost_ret (resSt Tryz.results149 _ _ w.heap.size _ _ _ _ _ _ _ rfl g1) rfl (HG0.out _ _ (.inl ⟨_, _, _, _, _, ?_, rfl, g2, g3, g4⟩))
  rw [HM.out, if_neg HNo0.out, if_pos HYes.out]
  show bnd (zW (l.tail)) _ = _
  rw [HR46.out]
  show bnd (zh [59] (l41)) _ = _
  rw [HV55.out]
  all_goals rfl
 have HNo1 : Hid (¬ (hd l).t = [114, 101, 116, 117, 114, 110]) := hv
 have hg : Gr P x0 x1 := ze hb
 have hp := HS34.out.a.ps.below hb
 have he := HS34.out.a.ends
 have HS59 : Hid (SW w P T q m #[.int .i64 0, .int .i64 ((hd l).p : Int), .string ⟨#[]⟩, .pointer none, .pointer none, .slice none 0 0, .slice none 0 0] (o) (c) d (l) x1) := HS34.out.go hg hp he (Nat.le_refl _)
 clear hv hb hp hg he HS34
 go_wp2_with (go_at_call 94; fail)
 refine (qH HS59.out.a ⟨#[112, 114, 105, 110, 116]⟩ (by decide)).mono ?_
 rintro e x2 (⟨hv, rfl, hp, hg, he, hlt⟩ | ⟨hv, rfl, hb⟩)
 ·have HYes : Hid ((hd l).t = [112, 114, 105, 110, 116]) := hv
  have HS60 : Hid (SW w P T q m #[.int .i64 0, .int .i64 ((hd l).p : Int), .string ⟨#[]⟩, .pointer none, .pointer none, .slice none 0 0, .slice none 0 0] (o + 3) (c - 1) d (l.tail) x2) := HS59.out.go hg hp he (Nat.le_of_lt hlt)
  have HL0 : Hid ((l.tail).length < l.length) := hlt
  clear hv hp hg he hlt HS59
  have f0 := zb HS60.out.i.blk 0
  have c0 := z_ (i := 0) HS60.out.i.blk rfl
  go_wp2_with (go_at_call 206; fail)
  obtain ⟨V61, hV62⟩ : ∃ X, X = x2.setCell ⟨q, 0, none⟩ (.int .i64 7) := ⟨_, rfl⟩
  have HS63 : Hid (SW w P T q m #[.int .i64 7, .int .i64 ((hd l).p : Int), .string ⟨#[]⟩, .pointer none, .pointer none, .slice none 0 0, .slice none 0 0] (o + 3) (c - 1) d (l.tail) V61) := by
   show SW _ _ _ _ _ _ _ _ _ _ _
   rw [hV62]
   exact HS60.out.set 0 _
  rw [← hV62]
  clear hV62 HS60 f0 c0
  refine (expr_at HS63.out.a).mono ?_
  intro e u64 hpost
  rcases hpost.parts with ⟨t65, l66, v67, o68, c69, hr, rfl, hx, hp, hg⟩ | ⟨k, p, hr, ⟨b, rfl, hb⟩, hg⟩
  rotate_left
  ·refine ⟨rfl, HG0.out _ _ (.inr ⟨k, p, ?_, ⟨b, rfl, hb⟩, HS63.out.i.gr.trans hg⟩)⟩
   rw [HM.out, if_neg HNo0.out, if_neg HNo1.out, if_pos HYes.out]
   show bnd (zW (l.tail)) _ = _
   rw [hr]
   all_goals rfl
  obtain ⟨b70, rfl⟩ := expr_ptr hr hx
  obtain ⟨he, hlt⟩ := qu hr HS63.out.a.ends
  have HR71 : Hid (zW (l.tail) = .ok (t65, l66)) := hr
  have HX72 : Hid (ExAt (Fr m) u64 t65 (.pointer (some ⟨b70, 0, none⟩))) := hx.old HS63.out.le
  have HS73 : Hid (SW w P T q m #[.int .i64 7, .int .i64 ((hd l).p : Int), .string ⟨#[]⟩, .pointer none, .pointer none, .slice none 0 0, .slice none 0 0] (o68) (c69) d (l66) u64) := HS63.out.go hg hp he (Nat.le_of_lt hlt)
  have HL74 : Hid (l66.length < ((l.tail)).length) := hlt
  clear hpost hr hx hp hg he hlt HS63
  have f4 := zb HS73.out.i.blk 4
  have c4 := z_ (i := 4) HS73.out.i.blk rfl
  go_wp2_with (go_at_call 92; fail)
  obtain ⟨V75, hV76⟩ : ∃ X, X = u64.setCell ⟨q, 4, none⟩ (.pointer (some ⟨b70, 0, none⟩)) := ⟨_, rfl⟩
  have HS77 : Hid (SW w P T q m #[.int .i64 7, .int .i64 ((hd l).p : Int), .string ⟨#[]⟩, .pointer none, .pointer (some ⟨b70, 0, none⟩), .slice none 0 0, .slice none 0 0] (o68) (c69) d (l66) V75) := by
   show SW _ _ _ _ _ _ _ _ _ _ _
   rw [hV76]
   exact HS73.out.set 4 _
  have HX78 : Hid (ExAt (Fr m) V75 t65 (.pointer (some ⟨b70, 0, none⟩))) := by
   show ExAt _ _ _ _
   rw [hV76]
   exact (HS73.out.kset 4 _).ex HX72.out
  rw [← hV76]
  clear hV76 HS73 f4 c4 HX72
  refine (nee_at HS77.out.a ⟨#[59]⟩ (by decide)).mono ?_
  rintro e u79 (⟨hv, rfl, hp, hg, he, hlt⟩ | ⟨hv, ⟨b, rfl, hb⟩, hg⟩)
  rotate_left
  ·refine ⟨rfl, HG0.out _ _ (.inr ⟨_, _, ?_, ⟨b, rfl, hb⟩, HS77.out.i.gr.trans hg⟩)⟩
   have hv' : zh [59] (l66) = _ := hv
   rw [HM.out, if_neg HNo0.out, if_neg HNo1.out, if_pos HYes.out]
   show bnd (zW (l.tail)) _ = _
   rw [HR71.out]
   show bnd (zh [59] (l66)) _ = _
   rw [hv']
   all_goals rfl
  have HV80 : Hid (zh [59] (l66) = .ok ((), ((l66)).tail)) := hv
  have HS81 : Hid (SW w P T q m #[.int .i64 7, .int .i64 ((hd l).p : Int), .string ⟨#[]⟩, .pointer none, .pointer (some ⟨b70, 0, none⟩), .slice none 0 0, .slice none 0 0] ((o68) + 3) ((c69) - 1) d ((l66).tail) u79) := HS77.out.go hg hp he (Nat.le_of_lt hlt)
  have HX82 : Hid (ExAt (Fr m) u79 t65 (.pointer (some ⟨b70, 0, none⟩))) := (HS77.out.kgo hg).ex HX78.out
  have HL83 : Hid (((l66)).tail.length < ((l66)).length) := hlt
  clear hv hp hg he hlt HS77 HX78
  obtain ⟨q0, q1, q2, q3, q4, q5, q6⟩ := HS81.out.i.cells
  obtain ⟨r0, r1, r2, r3, r4, r5, r6, rf⟩ := HS81.out.i.rcells
  have hne : ¬ w.heap.size = q := by have := HS81.out.i.ltq; omega
  have hne2 : ¬ q = w.heap.size := by have := HS81.out.i.ltq; omega
  go_wp2
  try simp only [Exit.inBlock, Exit.then]
  have hX : StAt (Fr m) u79 (cc (st 7 ((hd l).p : Int) [] .nil t65 ce ce) ce) (#[.int .i64 7, .int .i64 ((hd l).p : Int), .string ⟨#[]⟩, .pointer none, .pointer (some ⟨b70, 0, none⟩), .slice none 0 0, .slice none 0 0]).toList := st_plain (nm := []) (qj _ _) HX82.out
  obtain ⟨g1, g2, g3, g4⟩ := st_fin HS81.out.i (Nat.lt_of_lt_of_le HS81.out.i.ltq (Nat.le_of_lt HS81.out.lt)) hX HS81.out.a.ps HA.out.ltT
  refine bodyPost_ret (resSt Tryz.results149 _ _ w.heap.size _ _ _ _ _ _ _ rfl g1) rfl (HG0.out _ _ (.inl ⟨_, _, _, _, _, ?_, rfl, g2, g3, g4⟩))
  rw [HM.out, if_neg HNo0.out, if_neg HNo1.out, if_pos HYes.out]
  show bnd (zW (l.tail)) _ = _
  rw [HR71.out]
  show bnd (zh [59] (l66)) _ = _
  rw [HV80.out]
  all_goals rfl
 have HNo2 : Hid (¬ (hd l).t = [112, 114, 105, 110, 116]) := hv
 have hg : Gr P x1 x2 := ze hb
 have hp := HS59.out.a.ps.below hb
 have he := HS59.out.a.ends
 have HS84 : Hid (SW w P T q m #[.int .i64 0, .int .i64 ((hd l).p : Int), .string ⟨#[]⟩, .pointer none, .pointer none, .slice none 0 0, .slice none 0 0] (o) (c) d (l) x2) := HS59.out.go hg hp he (Nat.le_refl _)
 clear hv hb hp hg he HS59
 go_wp2_with (go_at_call 94; fail)
 refine (qH HS84.out.a ⟨#[105, 102]⟩ (by decide)).mono ?_
 rintro e x3 (⟨hv, rfl, hp, hg, he, hlt⟩ | ⟨hv, rfl, hb⟩)
 ·have HYes : Hid ((hd l).t = [105, 102]) := hv
  have HS85 : Hid (SW w P T q m #[.int .i64 0, .int .i64 ((hd l).p : Int), .string ⟨#[]⟩, .pointer none, .pointer none, .slice none 0 0, .slice none 0 0] (o + 3) (c - 1) d (l.tail) x3) := HS84.out.go hg hp he (Nat.le_of_lt hlt)
  have HL0 : Hid ((l.tail).length < l.length) := hlt
  clear hv hp hg he hlt HS84
  have f0 := zb HS85.out.i.blk 0
  have c0 := z_ (i := 0) HS85.out.i.blk rfl
  go_wp2_with (go_at_call 207; fail)
  obtain ⟨V86, hV87⟩ : ∃ X, X = x3.setCell ⟨q, 0, none⟩ (.int .i64 4) := ⟨_, rfl⟩
  have HS88 : Hid (SW w P T q m #[.int .i64 4, .int .i64 ((hd l).p : Int), .string ⟨#[]⟩, .pointer none, .pointer none, .slice none 0 0, .slice none 0 0] (o + 3) (c - 1) d (l.tail) V86) := by
   show SW _ _ _ _ _ _ _ _ _ _ _
   rw [hV87]
   exact HS85.out.set 0 _
  rw [← hV87]
  clear hV87 HS85 f0 c0
  refine (held_at HS88.out.a).mono ?_
  intro e u89 hpost
  rcases hpost.parts with ⟨t90, l91, v92, o93, c94, hr, rfl, hx, hp, hg⟩ | ⟨k, p, hr, ⟨b, rfl, hb⟩, hg⟩
  rotate_left
  ·refine ⟨rfl, HG0.out _ _ (.inr ⟨k, p, ?_, ⟨b, rfl, hb⟩, HS88.out.i.gr.trans hg⟩)⟩
   rw [HM.out, if_neg HNo0.out, if_neg HNo1.out, if_neg HNo2.out, if_pos HYes.out]
   show bnd (heldV (l.tail)) _ = _
   rw [hr]
   all_goals rfl
  obtain ⟨b95, rfl⟩ := held_ptr hr hx
  obtain ⟨he, hlt⟩ := held_tail hr HS88.out.a.ends
  have HR96 : Hid (heldV (l.tail) = .ok (t90, l91)) := hr
  have HX97 : Hid (ExAt (Fr m) u89 t90 (.pointer (some ⟨b95, 0, none⟩))) := hx.old HS88.out.le
  have HS98 : Hid (SW w P T q m #[.int .i64 4, .int .i64 ((hd l).p : Int), .string ⟨#[]⟩, .pointer none, .pointer none, .slice none 0 0, .slice none 0 0] (o93) (c94) d (l91) u89) := HS88.out.go hg hp he (Nat.le_of_lt hlt)
  have HL99 : Hid (l91.length < ((l.tail)).length) := hlt
  clear hpost hr hx hp hg he hlt HS88
  have f4 := zb HS98.out.i.blk 4
  have c4 := z_ (i := 4) HS98.out.i.blk rfl
  go_wp2_with (go_at_call 97; fail)
  obtain ⟨V100, hV101⟩ : ∃ X, X = u89.setCell ⟨q, 4, none⟩ (.pointer (some ⟨b95, 0, none⟩)) := ⟨_, rfl⟩
  have HS102 : Hid (SW w P T q m #[.int .i64 4, .int .i64 ((hd l).p : Int), .string ⟨#[]⟩, .pointer none, .pointer (some ⟨b95, 0, none⟩), .slice none 0 0, .slice none 0 0] (o93) (c94) d (l91) V100) := by
   show SW _ _ _ _ _ _ _ _ _ _ _
   rw [hV101]
   exact HS98.out.set 4 _
  have HX103 : Hid (ExAt (Fr m) V100 t90 (.pointer (some ⟨b95, 0, none⟩))) := by
   show ExAt _ _ _ _
   rw [hV101]
   exact (HS98.out.kset 4 _).ex HX97.out
  rw [← hV101]
  clear hV101 HS98 f4 c4 HX97
  refine (HIB.out d V100 P T _ _ (l91) HS102.out.a (by have := HN.out; have := HL0.out; have := HL99.out; omega)).mono ?_
  rintro e u104 (⟨t105, l106, v, n109, cs110, o107, c108, hr, rfl, hrow, hx, hp, hg⟩ | ⟨k, p, hr, ⟨b, rfl, hb⟩, hg⟩)
  rotate_left
  ·refine ⟨rfl, HG0.out _ _ (.inr ⟨k, p, ?_, ⟨b, rfl, hb⟩, HS102.out.i.gr.trans hg⟩)⟩
   rw [HM.out, if_neg HNo0.out, if_neg HNo1.out, if_neg HNo2.out, if_pos HYes.out]
   show bnd (heldV (l.tail)) _ = _
   rw [HR96.out]
   show bnd (stV f 0 d (l91)) _ = _
   rw [hr]
   all_goals rfl
  obtain ⟨qv111, cv112, rfl⟩ := zd hrow
  obtain ⟨he, hlt⟩ := qy f 0 d _ _ _ HS102.out.a.ends hr
  have HR113 : Hid (stV f 0 d (l91) = .ok (t105, l106)) := hr
  have HX115 : Hid (RowS (Fr m) u104 147 7 (.slice qv111 n109 cv112) n109 cs110) := row_fr hrow HS102.out.le
  have HX114 : Hid (StAt (Fr m) u104 t105 cs110) := hx.old HS102.out.le
  have HS116 : Hid (SW w P T q m #[.int .i64 4, .int .i64 ((hd l).p : Int), .string ⟨#[]⟩, .pointer none, .pointer (some ⟨b95, 0, none⟩), .slice none 0 0, .slice none 0 0] (o107) (c108) d (l106) u104) := HS102.out.go hg hp he (Nat.le_of_lt hlt)
  have HX117 : Hid (ExAt (Fr m) u104 t90 (.pointer (some ⟨b95, 0, none⟩))) := (HS102.out.kgo hg).ex HX103.out
  have HL118 : Hid (l106.length < ((l91)).length) := hlt
  clear hr hrow hx hp hg he hlt HS102 HX103
  have f5 := zb HS116.out.i.blk 5
  have c5 := z_ (i := 5) HS116.out.i.blk rfl
  go_wp2_with (go_at_call 94; fail)
  obtain ⟨V119, hV120⟩ : ∃ X, X = u104.setCell ⟨q, 5, none⟩ ((.slice qv111 n109 cv112)) := ⟨_, rfl⟩
  have HS121 : Hid (SW w P T q m #[.int .i64 4, .int .i64 ((hd l).p : Int), .string ⟨#[]⟩, .pointer none, .pointer (some ⟨b95, 0, none⟩), (.slice qv111 n109 cv112), .slice none 0 0] (o107) (c108) d (l106) V119) := by
   show SW _ _ _ _ _ _ _ _ _ _ _
   rw [hV120]
   exact HS116.out.set 5 _
  have HX122 : Hid (ExAt (Fr m) V119 t90 (.pointer (some ⟨b95, 0, none⟩))) := by
   show ExAt _ _ _ _
   rw [hV120]
   exact (HS116.out.kset 5 _).ex HX117.out
  have HX123 : Hid (RowS (Fr m) V119 147 7 (.slice qv111 n109 cv112) n109 cs110) := by
   show RowS _ _ _ _ _ _ _
   rw [hV120]
   exact HX115.out.kept (HS116.out.kset 5 _) (by decide)
  have HX124 : Hid (StAt (Fr m) V119 t105 cs110) := by
   show StAt _ _ _ _
   rw [hV120]
   exact StAt.kept (HS116.out.kset 5 _) _ _ HX114.out
  rw [← hV120]
  clear hV120 HS116 f5 c5 HX117 HX115 HX114
  refine (qH HS121.out.a ⟨#[101, 108, 115, 101]⟩ (by decide)).mono ?_
  rintro e z2 (⟨hv, rfl, hp, hg, he, hlt⟩ | ⟨hv, rfl, hb⟩)
  ·have HY2 : Hid ((hd (l106)).t = [101, 108, 115, 101]) := hv
   have HS125 : Hid (SW w P T q m #[.int .i64 4, .int .i64 ((hd l).p : Int), .string ⟨#[]⟩, .pointer none, .pointer (some ⟨b95, 0, none⟩), (.slice qv111 n109 cv112), .slice none 0 0] ((o107) + 3) ((c108) - 1) d ((l106).tail) z2) := HS121.out.go hg hp he (Nat.le_of_lt hlt)
   have HX126 : Hid (ExAt (Fr m) z2 t90 (.pointer (some ⟨b95, 0, none⟩))) := (HS121.out.kgo hg).ex HX122.out
   have HX127 : Hid (RowS (Fr m) z2 147 7 (.slice qv111 n109 cv112) n109 cs110) := HX123.out.kept (HS121.out.kgo hg) (by decide)
   have HX128 : Hid (StAt (Fr m) z2 t105 cs110) := StAt.kept (HS121.out.kgo hg) _ _ HX124.out
   have HL9 : Hid (((l106)).tail.length < ((l106)).length) := hlt
   clear hv hp hg he hlt HS121 HX122 HX123 HX124
   go_wp2_with (go_at_call 97; fail)
   refine (HIB.out d z2 P T _ _ ((l106).tail) HS125.out.a (by have := HN.out; have := HL0.out; have := HL99.out; have := HL118.out; have := HL9.out; omega)).mono ?_
   rintro e u129 (⟨t130, l131, v, n134, cs135, o132, c133, hr, rfl, hrow, hx, hp, hg⟩ | ⟨k, p, hr, ⟨b, rfl, hb⟩, hg⟩)
   rotate_left
   ·refine ⟨rfl, HG0.out _ _ (.inr ⟨k, p, ?_, ⟨b, rfl, hb⟩, HS125.out.i.gr.trans hg⟩)⟩
    rw [HM.out, if_neg HNo0.out, if_neg HNo1.out, if_neg HNo2.out, if_pos HYes.out]
    show bnd (heldV (l.tail)) _ = _
    rw [HR96.out]
    show bnd (stV f 0 d (l91)) _ = _
    rw [HR113.out]
    show (if (hd (l106)).t = [101, 108, 115, 101] then _ else _) = _
    rw [if_pos HY2.out]
    show bnd (stV f 0 d ((l106).tail)) _ = _
    rw [hr]
    all_goals rfl
   obtain ⟨qv136, cv137, rfl⟩ := zd hrow
   obtain ⟨he, hlt⟩ := qy f 0 d _ _ _ HS125.out.a.ends hr
   have HR138 : Hid (stV f 0 d ((l106).tail) = .ok (t130, l131)) := hr
   have HX140 : Hid (RowS (Fr m) u129 147 7 (.slice qv136 n134 cv137) n134 cs135) := row_fr hrow HS125.out.le
   have HX139 : Hid (StAt (Fr m) u129 t130 cs135) := hx.old HS125.out.le
   have HS141 : Hid (SW w P T q m #[.int .i64 4, .int .i64 ((hd l).p : Int), .string ⟨#[]⟩, .pointer none, .pointer (some ⟨b95, 0, none⟩), (.slice qv111 n109 cv112), .slice none 0 0] (o132) (c133) d (l131) u129) := HS125.out.go hg hp he (Nat.le_of_lt hlt)
   have HX142 : Hid (ExAt (Fr m) u129 t90 (.pointer (some ⟨b95, 0, none⟩))) := (HS125.out.kgo hg).ex HX126.out
   have HX143 : Hid (RowS (Fr m) u129 147 7 (.slice qv111 n109 cv112) n109 cs110) := HX127.out.kept (HS125.out.kgo hg) (by decide)
   have HX144 : Hid (StAt (Fr m) u129 t105 cs110) := StAt.kept (HS125.out.kgo hg) _ _ HX128.out
   have HL145 : Hid (l131.length < (((l106).tail)).length) := hlt
   clear hr hrow hx hp hg he hlt HS125 HX126 HX127 HX128
   obtain ⟨q0, q1, q2, q3, q4, q5, q6⟩ := HS141.out.i.cells
   obtain ⟨r0, r1, r2, r3, r4, r5, r6, rf⟩ := HS141.out.i.rcells
   have hne : ¬ w.heap.size = q := by have := HS141.out.i.ltq; omega
   have hne2 : ¬ q = w.heap.size := by have := HS141.out.i.ltq; omega
   have qf6 := zb HS141.out.i.blk 6
   go_wp2
   try simp only [Exit.inBlock, Exit.then]
   have hSS : SW w P T q m #[.int .i64 4, .int .i64 ((hd l).p : Int), .string ⟨#[]⟩, .pointer none, .pointer (some ⟨b95, 0, none⟩), (.slice qv111 n109 cv112), (.slice qv136 n134 cv137)] (o132) (c133) d (l131) (u129.setCell ⟨q, 6, none⟩ ((.slice qv136 n134 cv137))) := HS141.out.set 6 _
   have hKK := HS141.out.kset 6 ((.slice qv136 n134 cv137))
   have hX : StAt (Fr m) (u129.setCell ⟨q, 6, none⟩ ((.slice qv136 n134 cv137))) (cc (st 4 ((hd l).p : Int) [] .nil t90 t105 t130) ce) (#[.int .i64 4, .int .i64 ((hd l).p : Int), .string ⟨#[]⟩, .pointer none, .pointer (some ⟨b95, 0, none⟩), (.slice qv111 n109 cv112), (.slice qv136 n134 cv137)]).toList := st_full (nm := []) (qj _ _) (hKK.ex HX142.out) (HX143.out.kept hKK (by decide)) (StAt.kept hKK _ _ HX144.out) (HX140.out.kept hKK (by decide)) (StAt.kept hKK _ _ HX139.out)
   obtain ⟨g1, g2, g3, g4⟩ := st_fin hSS.i (Nat.lt_of_lt_of_le hSS.i.ltq (Nat.le_of_lt hSS.lt)) hX hSS.a.ps HA.out.ltT
   refine bodyPost_ret (resSt Tryz.results149 _ _ w.heap.size _ _ _ _ _ _ _ rfl g1) rfl (HG0.out _ _ (.inl ⟨_, _, _, _, _, ?_, rfl, g2, g3, g4⟩))
   rw [HM.out, if_neg HNo0.out, if_neg HNo1.out, if_neg HNo2.out, if_pos HYes.out]
   show bnd (heldV (l.tail)) _ = _
   rw [HR96.out]
   show bnd (stV f 0 d (l91)) _ = _
   rw [HR113.out]
   show (if (hd (l106)).t = [101, 108, 115, 101] then _ else _) = _
   rw [if_pos HY2.out]
   show bnd (stV f 0 d ((l106).tail)) _ = _
   rw [HR138.out]
   all_goals rfl
  ·have HY2 : Hid (¬ (hd (l106)).t = [101, 108, 115, 101]) := hv
   have hg : Gr P V119 z2 := ze hb
   have hp := HS121.out.a.ps.below hb
   have he := HS121.out.a.ends
   have HS146 : Hid (SW w P T q m #[.int .i64 4, .int .i64 ((hd l).p : Int), .string ⟨#[]⟩, .pointer none, .pointer (some ⟨b95, 0, none⟩), (.slice qv111 n109 cv112), .slice none 0 0] ((o107)) ((c108)) d ((l106)) z2) := HS121.out.go hg hp he (Nat.le_refl _)
   have HX147 : Hid (ExAt (Fr m) z2 t90 (.pointer (some ⟨b95, 0, none⟩))) := (HS121.out.kgo hg).ex HX122.out
   have HX148 : Hid (RowS (Fr m) z2 147 7 (.slice qv111 n109 cv112) n109 cs110) := HX123.out.kept (HS121.out.kgo hg) (by decide)
   have HX149 : Hid (StAt (Fr m) z2 t105 cs110) := StAt.kept (HS121.out.kgo hg) _ _ HX124.out
   clear hv hb hp hg he HS121 HX122 HX123 HX124
   obtain ⟨q0, q1, q2, q3, q4, q5, q6⟩ := HS146.out.i.cells
   obtain ⟨r0, r1, r2, r3, r4, r5, r6, rf⟩ := HS146.out.i.rcells
   have hne : ¬ w.heap.size = q := by have := HS146.out.i.ltq; omega
   have hne2 : ¬ q = w.heap.size := by have := HS146.out.i.ltq; omega
   go_wp2
   try simp only [Exit.inBlock, Exit.then]
   have hX : StAt (Fr m) z2 (cc (st 4 ((hd l).p : Int) [] .nil t90 t105 ce) ce) (#[.int .i64 4, .int .i64 ((hd l).p : Int), .string ⟨#[]⟩, .pointer none, .pointer (some ⟨b95, 0, none⟩), (.slice qv111 n109 cv112), .slice none 0 0]).toList := st_full (nm := []) (qj _ _) HX147.out HX148.out HX149.out (RowS.none _ _ _ _) (st_none _ _)
   obtain ⟨g1, g2, g3, g4⟩ := st_fin HS146.out.i (Nat.lt_of_lt_of_le HS146.out.i.ltq (Nat.le_of_lt HS146.out.lt)) hX HS146.out.a.ps HA.out.ltT
   refine bodyPost_ret (resSt Tryz.results149 _ _ w.heap.size _ _ _ _ _ _ _ rfl g1) rfl (HG0.out _ _ (.inl ⟨_, _, _, _, _, ?_, rfl, g2, g3, g4⟩))
   rw [HM.out, if_neg HNo0.out, if_neg HNo1.out, if_neg HNo2.out, if_pos HYes.out]
   show bnd (heldV (l.tail)) _ = _
   rw [HR96.out]
   show bnd (stV f 0 d (l91)) _ = _
   rw [HR113.out]
   show (if (hd (l106)).t = [101, 108, 115, 101] then _ else _) = _
   rw [if_neg HY2.out]
   all_goals rfl
 have HNo3 : Hid (¬ (hd l).t = [105, 102]) := hv
 have hg : Gr P x2 x3 := ze hb
 have hp := HS84.out.a.ps.below hb
 have he := HS84.out.a.ends
 have HS150 : Hid (SW w P T q m #[.int .i64 0, .int .i64 ((hd l).p : Int), .string ⟨#[]⟩, .pointer none, .pointer none, .slice none 0 0, .slice none 0 0] (o) (c) d (l) x3) := HS84.out.go hg hp he (Nat.le_refl _)
 clear hv hb hp hg he HS84
 go_wp2_with (go_at_call 94; fail)
 refine (qH HS150.out.a ⟨#[119, 104, 105, 108, 101]⟩ (by decide)).mono ?_
 rintro e x4 (⟨hv, rfl, hp, hg, he, hlt⟩ | ⟨hv, rfl, hb⟩)
 ·have HYes : Hid ((hd l).t = [119, 104, 105, 108, 101]) := hv
  have HS151 : Hid (SW w P T q m #[.int .i64 0, .int .i64 ((hd l).p : Int), .string ⟨#[]⟩, .pointer none, .pointer none, .slice none 0 0, .slice none 0 0] (o + 3) (c - 1) d (l.tail) x4) := HS150.out.go hg hp he (Nat.le_of_lt hlt)
  have HL0 : Hid ((l.tail).length < l.length) := hlt
  clear hv hp hg he hlt HS150
  have f0 := zb HS151.out.i.blk 0
  have c0 := z_ (i := 0) HS151.out.i.blk rfl
  go_wp2_with (go_at_call 207; fail)
  obtain ⟨V152, hV153⟩ : ∃ X, X = x4.setCell ⟨q, 0, none⟩ (.int .i64 5) := ⟨_, rfl⟩
  have HS154 : Hid (SW w P T q m #[.int .i64 5, .int .i64 ((hd l).p : Int), .string ⟨#[]⟩, .pointer none, .pointer none, .slice none 0 0, .slice none 0 0] (o + 3) (c - 1) d (l.tail) V152) := by
   show SW _ _ _ _ _ _ _ _ _ _ _
   rw [hV153]
   exact HS151.out.set 0 _
  rw [← hV153]
  clear hV153 HS151 f0 c0
  refine (held_at HS154.out.a).mono ?_
  intro e u155 hpost
  rcases hpost.parts with ⟨t156, l157, v158, o159, c160, hr, rfl, hx, hp, hg⟩ | ⟨k, p, hr, ⟨b, rfl, hb⟩, hg⟩
  rotate_left
  ·refine ⟨rfl, HG0.out _ _ (.inr ⟨k, p, ?_, ⟨b, rfl, hb⟩, HS154.out.i.gr.trans hg⟩)⟩
   rw [HM.out, if_neg HNo0.out, if_neg HNo1.out, if_neg HNo2.out, if_neg HNo3.out, if_pos HYes.out]
   show bnd (heldV (l.tail)) _ = _
   rw [hr]
   all_goals rfl
  obtain ⟨b161, rfl⟩ := held_ptr hr hx
  obtain ⟨he, hlt⟩ := held_tail hr HS154.out.a.ends
  have HR162 : Hid (heldV (l.tail) = .ok (t156, l157)) := hr
  have HX163 : Hid (ExAt (Fr m) u155 t156 (.pointer (some ⟨b161, 0, none⟩))) := hx.old HS154.out.le
  have HS164 : Hid (SW w P T q m #[.int .i64 5, .int .i64 ((hd l).p : Int), .string ⟨#[]⟩, .pointer none, .pointer none, .slice none 0 0, .slice none 0 0] (o159) (c160) d (l157) u155) := HS154.out.go hg hp he (Nat.le_of_lt hlt)
  have HL165 : Hid (l157.length < ((l.tail)).length) := hlt
  clear hpost hr hx hp hg he hlt HS154
  have f4 := zb HS164.out.i.blk 4
  have c4 := z_ (i := 4) HS164.out.i.blk rfl
  go_wp2_with (go_at_call 97; fail)
  obtain ⟨V166, hV167⟩ : ∃ X, X = u155.setCell ⟨q, 4, none⟩ (.pointer (some ⟨b161, 0, none⟩)) := ⟨_, rfl⟩
  have HS168 : Hid (SW w P T q m #[.int .i64 5, .int .i64 ((hd l).p : Int), .string ⟨#[]⟩, .pointer none, .pointer (some ⟨b161, 0, none⟩), .slice none 0 0, .slice none 0 0] (o159) (c160) d (l157) V166) := by
   show SW _ _ _ _ _ _ _ _ _ _ _
   rw [hV167]
   exact HS164.out.set 4 _
  have HX169 : Hid (ExAt (Fr m) V166 t156 (.pointer (some ⟨b161, 0, none⟩))) := by
   show ExAt _ _ _ _
   rw [hV167]
   exact (HS164.out.kset 4 _).ex HX163.out
  rw [← hV167]
  clear hV167 HS164 f4 c4 HX163
  refine (HIB.out d V166 P T _ _ (l157) HS168.out.a (by have := HN.out; have := HL0.out; have := HL165.out; omega)).mono ?_
  rintro e u170 (⟨t171, l172, v, n175, cs176, o173, c174, hr, rfl, hrow, hx, hp, hg⟩ | ⟨k, p, hr, ⟨b, rfl, hb⟩, hg⟩)
  rotate_left
  ·refine ⟨rfl, HG0.out _ _ (.inr ⟨k, p, ?_, ⟨b, rfl, hb⟩, HS168.out.i.gr.trans hg⟩)⟩
   rw [HM.out, if_neg HNo0.out, if_neg HNo1.out, if_neg HNo2.out, if_neg HNo3.out, if_pos HYes.out]
   show bnd (heldV (l.tail)) _ = _
   rw [HR162.out]
   show bnd (stV f 0 d (l157)) _ = _
   rw [hr]
   all_goals rfl
  obtain ⟨qv177, cv178, rfl⟩ := zd hrow
  obtain ⟨he, hlt⟩ := qy f 0 d _ _ _ HS168.out.a.ends hr
  have HR179 : Hid (stV f 0 d (l157) = .ok (t171, l172)) := hr
  have HX181 : Hid (RowS (Fr m) u170 147 7 (.slice qv177 n175 cv178) n175 cs176) := row_fr hrow HS168.out.le
  have HX180 : Hid (StAt (Fr m) u170 t171 cs176) := hx.old HS168.out.le
  have HS182 : Hid (SW w P T q m #[.int .i64 5, .int .i64 ((hd l).p : Int), .string ⟨#[]⟩, .pointer none, .pointer (some ⟨b161, 0, none⟩), .slice none 0 0, .slice none 0 0] (o173) (c174) d (l172) u170) := HS168.out.go hg hp he (Nat.le_of_lt hlt)
  have HX183 : Hid (ExAt (Fr m) u170 t156 (.pointer (some ⟨b161, 0, none⟩))) := (HS168.out.kgo hg).ex HX169.out
  have HL184 : Hid (l172.length < ((l157)).length) := hlt
  clear hr hrow hx hp hg he hlt HS168 HX169
  obtain ⟨q0, q1, q2, q3, q4, q5, q6⟩ := HS182.out.i.cells
  obtain ⟨r0, r1, r2, r3, r4, r5, r6, rf⟩ := HS182.out.i.rcells
  have hne : ¬ w.heap.size = q := by have := HS182.out.i.ltq; omega
  have hne2 : ¬ q = w.heap.size := by have := HS182.out.i.ltq; omega
  have qf5 := zb HS182.out.i.blk 5
  go_wp2
  try simp only [Exit.inBlock, Exit.then]
  have hSS : SW w P T q m #[.int .i64 5, .int .i64 ((hd l).p : Int), .string ⟨#[]⟩, .pointer none, .pointer (some ⟨b161, 0, none⟩), (.slice qv177 n175 cv178), .slice none 0 0] (o173) (c174) d (l172) (u170.setCell ⟨q, 5, none⟩ ((.slice qv177 n175 cv178))) := HS182.out.set 5 _
  have hKK := HS182.out.kset 5 ((.slice qv177 n175 cv178))
  have hX : StAt (Fr m) (u170.setCell ⟨q, 5, none⟩ ((.slice qv177 n175 cv178))) (cc (st 5 ((hd l).p : Int) [] .nil t156 t171 ce) ce) (#[.int .i64 5, .int .i64 ((hd l).p : Int), .string ⟨#[]⟩, .pointer none, .pointer (some ⟨b161, 0, none⟩), (.slice qv177 n175 cv178), .slice none 0 0]).toList := st_full (nm := []) (qj _ _) (hKK.ex HX183.out) (HX181.out.kept hKK (by decide)) (StAt.kept hKK _ _ HX180.out) (RowS.none _ _ _ _) (st_none _ _)
  obtain ⟨g1, g2, g3, g4⟩ := st_fin hSS.i (Nat.lt_of_lt_of_le hSS.i.ltq (Nat.le_of_lt hSS.lt)) hX hSS.a.ps HA.out.ltT
  refine bodyPost_ret (resSt Tryz.results149 _ _ w.heap.size _ _ _ _ _ _ _ rfl g1) rfl (HG0.out _ _ (.inl ⟨_, _, _, _, _, ?_, rfl, g2, g3, g4⟩))
  rw [HM.out, if_neg HNo0.out, if_neg HNo1.out, if_neg HNo2.out, if_neg HNo3.out, if_pos HYes.out]
  show bnd (heldV (l.tail)) _ = _
  rw [HR162.out]
  show bnd (stV f 0 d (l157)) _ = _
  rw [HR179.out]
  all_goals rfl
 have HNo4 : Hid (¬ (hd l).t = [119, 104, 105, 108, 101]) := hv
 have hg : Gr P x3 x4 := ze hb
 have hp := HS150.out.a.ps.below hb
 have he := HS150.out.a.ends
 have HS185 : Hid (SW w P T q m #[.int .i64 0, .int .i64 ((hd l).p : Int), .string ⟨#[]⟩, .pointer none, .pointer none, .slice none 0 0, .slice none 0 0] (o) (c) d (l) x4) := HS150.out.go hg hp he (Nat.le_refl _)
 clear hv hb hp hg he HS150
 go_wp2_with (go_at_call 60; fail)
 refine (fault_any x4 P T o c (hd l) l.tail HS185.out.a.psc 3).mono ?_
 rintro e x9 ⟨⟨a, rfl, ha⟩, hb⟩
 have HA9 : Hid (x9.heap[a]? = some (.cells #[.int .i64 3, .int .i64 ((hd l).p : Int)] 139)) := ha
 have HG9 : Hid (Gr P w x9) := HS185.out.i.gr.trans (ze hb)
 clear ha hb
 go_wp2
 refine ⟨rfl, HG0.out _ _ (.inr ⟨3, (hd l).p, ?_, ⟨a, rfl, HA9.out⟩, HG9.out⟩)⟩
 rw [HM.out, if_neg HNo0.out, if_neg HNo1.out, if_neg HNo2.out, if_neg HNo3.out, if_neg HNo4.out]
end Go.Proofs.YtnfhpdbbfejioaaGreatDoor
