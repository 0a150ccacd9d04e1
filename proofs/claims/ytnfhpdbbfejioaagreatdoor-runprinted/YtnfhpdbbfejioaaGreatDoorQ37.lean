/- CF -/
import Derived.Test.YtnfhpdbbfejioaaGreatDoorQ36
namespace Go.Proofs.YtnfhpdbbfejioaaGreatDoor
set_option linter.unusedVariables false
set_option linter.unusedSimpArgs false
set_option maxRecDepth 100000
set_option maxHeartbeats 4000000
open Go Go.RowKit
theorem qB {α β γ : Type} (x : X α) (f : α → X β) (g : β → X γ) : bx (bx x f) g = bx x fun a => bx (f a) g := by cases x <;> rfl
theorem ck_1 (lk : By → Option Nm) (ns : Nm) (a n : Int) (nm op : By) (l r g : Tr) : ck lk ns (nd 1 a n nm op l r g) [] = .ok 1 := by
 rw [ck]
 simp [mu, qB]
theorem ck_9 (lk : By → Option Nm) (ns : Nm) (a n : Int) (nm op : By) (l r g : Tr) : ck lk ns (nd 9 a n nm op l r g) [] = .ok 1 := by
 rw [ck]
 simp [mu, qB]
theorem ck_3 (lk : By → Option Nm) (ns : Nm) (a n : Int) (nm op : By) (l r g : Tr) : ck lk ns (nd 3 a n nm op l r g) [] = bx (mu lk ns l 1) fun _ => bx (mu lk ns r 1) fun _ => .ok 1 := by
 rw [ck]
 simp [mu, qB]
theorem ck_4 (lk : By → Option Nm) (ns : Nm) (a n : Int) (nm op : By) (l r g : Tr) : ck lk ns (nd 4 a n nm op l r g) [] = bx (mu lk ns l 1) fun _ => .ok 1 := by
 rw [ck]
 simp [mu, qB]
theorem ck_6 (lk : By → Option Nm) (ns : Nm) (a n : Int) (nm op : By) (l r g : Tr) : ck lk ns (nd 6 a n nm op l r g) [] = bx (mu lk ns l 1) fun _ => .ok 2 := by
 rw [ck]
 simp [mu, qB]
theorem ck_7 (lk : By → Option Nm) (ns : Nm) (a n : Int) (nm op : By) (l r g : Tr) : ck lk ns (nd 7 a n nm op l r g) [] = bx (mu lk ns l 2) fun _ => .ok 1 := by
 rw [ck]
 simp [mu, qB]
theorem ck_8 (lk : By → Option Nm) (ns : Nm) (a n : Int) (nm op : By) (l r g : Tr) : ck lk ns (nd 8 a n nm op l r g) [] = bx (mu lk ns l 2) fun _ => bx (mu lk ns r 1) fun _ => .ok 1 := by
 rw [ck]
 simp [mu, qB]
theorem ck_2 (lk : By → Option Nm) (ns : Nm) (a n : Int) (nm op : By) (l r g : Tr) : ck lk ns (nd 2 a n nm op l r g) [] = (match ja ns nm with | some k => .ok k | none => .error (7, a)) := by
 rw [ck]
 simp
 cases ja ns nm <;> rfl
theorem ty_num {a n : Int} {nm op : By} {l r g : Tr} : TyC (nd 1 a n nm op l r g) := by
 intro w C fv mv nv fs ns k v hs hf hx
 obtain ⟨b, vl, vr, vg, ys, hb, rfl, hblk, hxl, hxr, hrow, hro, hxg⟩ := zY hx
 have c0 := z_ (i := 0) hblk rfl
 have HBk : Hid (w.heap[b]? = some (.cells #[.int .i64 1, .int .i64 a, .int .i64 n, str nm, str op, vl, vr, vg] 252)) := hblk
 have HS : Hid (CkS w C fv mv nv ns k) := hs
 have HF : Hid (FxS w C fv mv fs) := hf
 have HXl : Hid (ExAt (Lo C) w l vl) := hxl
 have HXr : Hid (ExAt (Lo C) w r vr) := hxr
 have HG0 : Hid (∀ e w', TyP (ck (lkL fs) ns (nd 1 a n nm op l r g) []) w e w' → TyP (ck (lkL fs) ns (nd 1 a n nm op l r g) []) w e w') := fun _ _ h => h
 generalize hG : TyP (ck (lkL fs) ns (nd 1 a n nm op l r g) []) w = G at *
 clear HG0
 have HG0 : Hid (∀ e w', TyP (ck (lkL fs) ns (nd 1 a n nm op l r g) []) w e w' → G e w') := fun e w' h => by rw [← hG]; exact h
 clear hs hf hx hblk hxl hxr hrow hro hxg hG
 go_enter Tryz.func156, Tryz.ntmps156
 go_wp2
 exact HG0.out _ _ ⟨.inl ⟨1, ck_1 _ _ _ _ _ _ _ _ _, rfl⟩, Below.refl _ _⟩
theorem ty_input {a n : Int} {nm op : By} {l r g : Tr} : TyC (nd 9 a n nm op l r g) := by
 intro w C fv mv nv fs ns k v hs hf hx
 obtain ⟨b, vl, vr, vg, ys, hb, rfl, hblk, hxl, hxr, hrow, hro, hxg⟩ := zY hx
 have c0 := z_ (i := 0) hblk rfl
 have HBk : Hid (w.heap[b]? = some (.cells #[.int .i64 9, .int .i64 a, .int .i64 n, str nm, str op, vl, vr, vg] 252)) := hblk
 have HS : Hid (CkS w C fv mv nv ns k) := hs
 have HF : Hid (FxS w C fv mv fs) := hf
 have HXl : Hid (ExAt (Lo C) w l vl) := hxl
 have HXr : Hid (ExAt (Lo C) w r vr) := hxr
 have HG0 : Hid (∀ e w', TyP (ck (lkL fs) ns (nd 9 a n nm op l r g) []) w e w' → TyP (ck (lkL fs) ns (nd 9 a n nm op l r g) []) w e w') := fun _ _ h => h
 generalize hG : TyP (ck (lkL fs) ns (nd 9 a n nm op l r g) []) w = G at *
 clear HG0
 have HG0 : Hid (∀ e w', TyP (ck (lkL fs) ns (nd 9 a n nm op l r g) []) w e w' → G e w') := fun e w' h => by rw [← hG]; exact h
 clear hs hf hx hblk hxl hxr hrow hro hxg hG
 go_enter Tryz.func156, Tryz.ntmps156
 go_wp2
 exact HG0.out _ _ ⟨.inl ⟨1, ck_9 _ _ _ _ _ _ _ _ _, rfl⟩, Below.refl _ _⟩
theorem ty_name {a n : Int} {nm op : By} {l r g : Tr} : TyC (nd 2 a n nm op l r g) := by
 intro w C fv mv nv fs ns k v hs hf hx
 obtain ⟨b, vl, vr, vg, ys, hb, rfl, hblk, hxl, hxr, hrow, hro, hxg⟩ := zY hx
 have c0 := z_ (i := 0) hblk rfl
 have HBk : Hid (w.heap[b]? = some (.cells #[.int .i64 2, .int .i64 a, .int .i64 n, str nm, str op, vl, vr, vg] 252)) := hblk
 have HS : Hid (CkS w C fv mv nv ns k) := hs
 have HF : Hid (FxS w C fv mv fs) := hf
 have HXl : Hid (ExAt (Lo C) w l vl) := hxl
 have HXr : Hid (ExAt (Lo C) w r vr) := hxr
 obtain ⟨y, hy, hyt⟩ := zt nm
 have HY : Hid (y.data.toList = nm) := hyt
 have c3 : w.cell? ⟨b, 3, none⟩ = some (.string y) := by rw [← hy]; exact z_ (i := 3) hblk rfl
 have c1 := z_ (i := 1) hblk rfl
 have HSd : Hid (CkS w.drew C fv mv nv ns k) := hs.below (Below.refl _ _).drew
 have HBd : Hid (∀ w', Below w.drew.heap.size w.drew w' → Below w.heap.size w w') := fun w' h => (Below.refl _ _).drew.trans h
 have HG0 : Hid (∀ e w', TyP (ck (lkL fs) ns (nd 2 a n nm op l r g) []) w e w' → TyP (ck (lkL fs) ns (nd 2 a n nm op l r g) []) w e w') := fun _ _ h => h
 generalize hG : TyP (ck (lkL fs) ns (nd 2 a n nm op l r g) []) w = G at *
 clear HG0
 have HG0 : Hid (∀ e w', TyP (ck (lkL fs) ns (nd 2 a n nm op l r g) []) w e w' → G e w') := fun e w' h => by rw [← hG]; exact h
 clear hy hyt
 clear hs hf hx hblk hxl hxr hrow hro hxg hG
 go_enter Tryz.func156, Tryz.ntmps156
 go_wp2_with fail
 go_region_with (go_at_call 158; refine (variable_any HSd.out y a).mono ?_; rintro e w1 ⟨⟨t, hr, rfl⟩ | ⟨hr, b1, rfl, hb1⟩, hw⟩; rotate_left; exact (by refine ⟨rfl, HG0.out _ _ ⟨.inr ⟨7, a, ?_, b1, rfl, hb1⟩, HBd.out _ hw⟩⟩; rw [ck_2, ← HY.out, hr]); have HB1 : Hid (Below w.heap.size w w1) := HBd.out _ hw; have HR : Hid (ja ns y.data.toList = some t) := hr; clear hw hr)
 all_goals
  go_wp2
  go_ret
  refine HG0.out _ _ ⟨.inl ⟨t, ?_, rfl⟩, HB1.out⟩
  rw [ck_2, ← HY.out, HR.out]
theorem ty_un {a n : Int} {nm op : By} {l r g : Tr} (IL : MuC l) : TyC (nd 4 a n nm op l r g) := by
 intro w C fv mv nv fs ns k v hs hf hx
 obtain ⟨b, vl, vr, vg, ys, hb, rfl, hblk, hxl, hxr, hrow, hro, hxg⟩ := zY hx
 have c0 := z_ (i := 0) hblk rfl
 have HBk : Hid (w.heap[b]? = some (.cells #[.int .i64 4, .int .i64 a, .int .i64 n, str nm, str op, vl, vr, vg] 252)) := hblk
 have HS : Hid (CkS w C fv mv nv ns k) := hs
 have HF : Hid (FxS w C fv mv fs) := hf
 have HXl : Hid (ExAt (Lo C) w l vl) := hxl
 have HXr : Hid (ExAt (Lo C) w r vr) := hxr
 have c5 := z_ (i := 5) hblk rfl
 have HG0 : Hid (∀ e w', TyP (ck (lkL fs) ns (nd 4 a n nm op l r g) []) w e w' → TyP (ck (lkL fs) ns (nd 4 a n nm op l r g) []) w e w') := fun _ _ h => h
 generalize hG : TyP (ck (lkL fs) ns (nd 4 a n nm op l r g) []) w = G at *
 clear HG0
 have HG0 : Hid (∀ e w', TyP (ck (lkL fs) ns (nd 4 a n nm op l r g) []) w e w' → G e w') := fun e w' h => by rw [← hG]; exact h
 clear hs hf hx hblk hxl hxr hrow hro hxg hG
 go_enter Tryz.func156, Tryz.ntmps156
 go_wp2_with (go_at_call 157; fail)
 refine (IL w C fv mv nv fs ns k vl 1 HS.out HF.out HXl.out).mono ?_
 rintro e w1 ⟨⟨hr, rfl⟩ | ⟨k1, a1, hr, b1, rfl, hb1⟩, hw⟩
 ·have HB1 : Hid (Below w.heap.size w w1) := hw
  have HR : Hid (mu (lkL fs) ns l 1 = .ok ()) := hr
  clear hw hr
  go_wp2
  refine HG0.out _ _ ⟨.inl ⟨1, ?_, rfl⟩, HB1.out⟩
  rw [ck_4, HR.out]
  rfl
 ·refine ⟨rfl, HG0.out _ _ ⟨.inr ⟨k1, a1, ?_, b1, rfl, hb1⟩, hw⟩⟩
  rw [ck_4, hr]
  rfl
theorem ty_new {a n : Int} {nm op : By} {l r g : Tr} (IL : MuC l) : TyC (nd 6 a n nm op l r g) := by
 intro w C fv mv nv fs ns k v hs hf hx
 obtain ⟨b, vl, vr, vg, ys, hb, rfl, hblk, hxl, hxr, hrow, hro, hxg⟩ := zY hx
 have c0 := z_ (i := 0) hblk rfl
 have HBk : Hid (w.heap[b]? = some (.cells #[.int .i64 6, .int .i64 a, .int .i64 n, str nm, str op, vl, vr, vg] 252)) := hblk
 have HS : Hid (CkS w C fv mv nv ns k) := hs
 have HF : Hid (FxS w C fv mv fs) := hf
 have HXl : Hid (ExAt (Lo C) w l vl) := hxl
 have HXr : Hid (ExAt (Lo C) w r vr) := hxr
 have c5 := z_ (i := 5) hblk rfl
 have HG0 : Hid (∀ e w', TyP (ck (lkL fs) ns (nd 6 a n nm op l r g) []) w e w' → TyP (ck (lkL fs) ns (nd 6 a n nm op l r g) []) w e w') := fun _ _ h => h
 generalize hG : TyP (ck (lkL fs) ns (nd 6 a n nm op l r g) []) w = G at *
 clear HG0
 have HG0 : Hid (∀ e w', TyP (ck (lkL fs) ns (nd 6 a n nm op l r g) []) w e w' → G e w') := fun e w' h => by rw [← hG]; exact h
 clear hs hf hx hblk hxl hxr hrow hro hxg hG
 go_enter Tryz.func156, Tryz.ntmps156
 go_wp2_with (go_at_call 157; fail)
 refine (IL w C fv mv nv fs ns k vl 1 HS.out HF.out HXl.out).mono ?_
 rintro e w1 ⟨⟨hr, rfl⟩ | ⟨k1, a1, hr, b1, rfl, hb1⟩, hw⟩
 ·have HB1 : Hid (Below w.heap.size w w1) := hw
  have HR : Hid (mu (lkL fs) ns l 1 = .ok ()) := hr
  clear hw hr
  go_wp2
  refine HG0.out _ _ ⟨.inl ⟨2, ?_, rfl⟩, HB1.out⟩
  rw [ck_6, HR.out]
  rfl
 ·refine ⟨rfl, HG0.out _ _ ⟨.inr ⟨k1, a1, ?_, b1, rfl, hb1⟩, hw⟩⟩
  rw [ck_6, hr]
  rfl
theorem ty_len {a n : Int} {nm op : By} {l r g : Tr} (IL : MuC l) : TyC (nd 7 a n nm op l r g) := by
 intro w C fv mv nv fs ns k v hs hf hx
 obtain ⟨b, vl, vr, vg, ys, hb, rfl, hblk, hxl, hxr, hrow, hro, hxg⟩ := zY hx
 have c0 := z_ (i := 0) hblk rfl
 have HBk : Hid (w.heap[b]? = some (.cells #[.int .i64 7, .int .i64 a, .int .i64 n, str nm, str op, vl, vr, vg] 252)) := hblk
 have HS : Hid (CkS w C fv mv nv ns k) := hs
 have HF : Hid (FxS w C fv mv fs) := hf
 have HXl : Hid (ExAt (Lo C) w l vl) := hxl
 have HXr : Hid (ExAt (Lo C) w r vr) := hxr
 have c5 := z_ (i := 5) hblk rfl
 have HG0 : Hid (∀ e w', TyP (ck (lkL fs) ns (nd 7 a n nm op l r g) []) w e w' → TyP (ck (lkL fs) ns (nd 7 a n nm op l r g) []) w e w') := fun _ _ h => h
 generalize hG : TyP (ck (lkL fs) ns (nd 7 a n nm op l r g) []) w = G at *
 clear HG0
 have HG0 : Hid (∀ e w', TyP (ck (lkL fs) ns (nd 7 a n nm op l r g) []) w e w' → G e w') := fun e w' h => by rw [← hG]; exact h
 clear hs hf hx hblk hxl hxr hrow hro hxg hG
 go_enter Tryz.func156, Tryz.ntmps156
 go_wp2_with (go_at_call 157; fail)
 refine (IL w C fv mv nv fs ns k vl 2 HS.out HF.out HXl.out).mono ?_
 rintro e w1 ⟨⟨hr, rfl⟩ | ⟨k1, a1, hr, b1, rfl, hb1⟩, hw⟩
 ·have HB1 : Hid (Below w.heap.size w w1) := hw
  have HR : Hid (mu (lkL fs) ns l 2 = .ok ()) := hr
  clear hw hr
  go_wp2
  refine HG0.out _ _ ⟨.inl ⟨1, ?_, rfl⟩, HB1.out⟩
  rw [ck_7, HR.out]
  rfl
 ·refine ⟨rfl, HG0.out _ _ ⟨.inr ⟨k1, a1, ?_, b1, rfl, hb1⟩, hw⟩⟩
  rw [ck_7, hr]
  rfl
theorem ty_bin {a n : Int} {nm op : By} {l r g : Tr} (IL : MuC l) (IR : MuC r) : TyC (nd 3 a n nm op l r g) := by
 intro w C fv mv nv fs ns k v hs hf hx
 obtain ⟨b, vl, vr, vg, ys, hb, rfl, hblk, hxl, hxr, hrow, hro, hxg⟩ := zY hx
 have c0 := z_ (i := 0) hblk rfl
 have HBk : Hid (w.heap[b]? = some (.cells #[.int .i64 3, .int .i64 a, .int .i64 n, str nm, str op, vl, vr, vg] 252)) := hblk
 have HS : Hid (CkS w C fv mv nv ns k) := hs
 have HF : Hid (FxS w C fv mv fs) := hf
 have HXl : Hid (ExAt (Lo C) w l vl) := hxl
 have HXr : Hid (ExAt (Lo C) w r vr) := hxr
 have c5 := z_ (i := 5) hblk rfl
 have HG0 : Hid (∀ e w', TyP (ck (lkL fs) ns (nd 3 a n nm op l r g) []) w e w' → TyP (ck (lkL fs) ns (nd 3 a n nm op l r g) []) w e w') := fun _ _ h => h
 generalize hG : TyP (ck (lkL fs) ns (nd 3 a n nm op l r g) []) w = G at *
 clear HG0
 have HG0 : Hid (∀ e w', TyP (ck (lkL fs) ns (nd 3 a n nm op l r g) []) w e w' → G e w') := fun e w' h => by rw [← hG]; exact h
 clear hs hf hx hblk hxl hxr hrow hro hxg hG
 go_enter Tryz.func156, Tryz.ntmps156
 go_wp2_with (go_at_call 157; fail)
 refine (IL w C fv mv nv fs ns k vl 1 HS.out HF.out HXl.out).mono ?_
 rintro e w1 ⟨⟨hr, rfl⟩ | ⟨k1, a1, hr, b1, rfl, hb1⟩, hw⟩
 ·have HB1 : Hid (Below w.heap.size w w1) := hw
  have HR : Hid (mu (lkL fs) ns l 1 = .ok ()) := hr
  have hlo := hw.mono (Nat.le_of_lt HS.out.lt)
  have HS1 : Hid (CkS w1 C fv mv nv ns k) := HS.out.below hw
  have HF1 : Hid (FxS w1 C fv mv fs) := HF.out.below hlo
  have HX1 : Hid (ExAt (Lo C) w1 r vr) := (zg hlo).ex HXr.out
  have c6 := z_ (i := 6) (blk_at (C := C) HBk.out hw) rfl
  clear hw hr hlo
  go_wp2_with (go_at_call 157; fail)
  refine (IR w1 C fv mv nv fs ns k vr 1 HS1.out HF1.out HX1.out).mono ?_
  rintro e w2 ⟨⟨hr, rfl⟩ | ⟨k1, a1, hr, b1, rfl, hb1⟩, hw⟩
  ·have HB2 : Hid (Below w.heap.size w w2) := HB1.out.trans (hw.mono HB1.out.size)
   have HR2 : Hid (mu (lkL fs) ns r 1 = .ok ()) := hr
   clear hw hr
   go_wp2
   refine HG0.out _ _ ⟨.inl ⟨1, ?_, rfl⟩, HB2.out⟩
   rw [ck_3, HR.out]
   show bx (mu (lkL fs) ns r 1) _ = _
   rw [HR2.out]
   rfl
  ·refine ⟨rfl, HG0.out _ _ ⟨.inr ⟨k1, a1, ?_, b1, rfl, hb1⟩, HB1.out.trans (hw.mono HB1.out.size)⟩⟩
   rw [ck_3, HR.out]
   show bx (mu (lkL fs) ns r 1) _ = _
   rw [hr]
   rfl
 ·refine ⟨rfl, HG0.out _ _ ⟨.inr ⟨k1, a1, ?_, b1, rfl, hb1⟩, hw⟩⟩
  rw [ck_3, hr]
  rfl
theorem ty_item {a n : Int} {nm op : By} {l r g : Tr} (IL : MuC l) (IR : MuC r) : TyC (nd 8 a n nm op l r g) := by
 intro w C fv mv nv fs ns k v hs hf hx
 obtain ⟨b, vl, vr, vg, ys, hb, rfl, hblk, hxl, hxr, hrow, hro, hxg⟩ := zY hx
 have c0 := z_ (i := 0) hblk rfl
 have HBk : Hid (w.heap[b]? = some (.cells #[.int .i64 8, .int .i64 a, .int .i64 n, str nm, str op, vl, vr, vg] 252)) := hblk
 have HS : Hid (CkS w C fv mv nv ns k) := hs
 have HF : Hid (FxS w C fv mv fs) := hf
 have HXl : Hid (ExAt (Lo C) w l vl) := hxl
 have HXr : Hid (ExAt (Lo C) w r vr) := hxr
 have c5 := z_ (i := 5) hblk rfl
 have HG0 : Hid (∀ e w', TyP (ck (lkL fs) ns (nd 8 a n nm op l r g) []) w e w' → TyP (ck (lkL fs) ns (nd 8 a n nm op l r g) []) w e w') := fun _ _ h => h
 generalize hG : TyP (ck (lkL fs) ns (nd 8 a n nm op l r g) []) w = G at *
 clear HG0
 have HG0 : Hid (∀ e w', TyP (ck (lkL fs) ns (nd 8 a n nm op l r g) []) w e w' → G e w') := fun e w' h => by rw [← hG]; exact h
 clear hs hf hx hblk hxl hxr hrow hro hxg hG
 go_enter Tryz.func156, Tryz.ntmps156
 go_wp2_with (go_at_call 157; fail)
 refine (IL w C fv mv nv fs ns k vl 2 HS.out HF.out HXl.out).mono ?_
 rintro e w1 ⟨⟨hr, rfl⟩ | ⟨k1, a1, hr, b1, rfl, hb1⟩, hw⟩
 ·have HB1 : Hid (Below w.heap.size w w1) := hw
  have HR : Hid (mu (lkL fs) ns l 2 = .ok ()) := hr
  have hlo := hw.mono (Nat.le_of_lt HS.out.lt)
  have HS1 : Hid (CkS w1 C fv mv nv ns k) := HS.out.below hw
  have HF1 : Hid (FxS w1 C fv mv fs) := HF.out.below hlo
  have HX1 : Hid (ExAt (Lo C) w1 r vr) := (zg hlo).ex HXr.out
  have c6 := z_ (i := 6) (blk_at (C := C) HBk.out hw) rfl
  clear hw hr hlo
  go_wp2_with (go_at_call 157; fail)
  refine (IR w1 C fv mv nv fs ns k vr 1 HS1.out HF1.out HX1.out).mono ?_
  rintro e w2 ⟨⟨hr, rfl⟩ | ⟨k1, a1, hr, b1, rfl, hb1⟩, hw⟩
  ·have HB2 : Hid (Below w.heap.size w w2) := HB1.out.trans (hw.mono HB1.out.size)
   have HR2 : Hid (mu (lkL fs) ns r 1 = .ok ()) := hr
   clear hw hr
   go_wp2
   refine HG0.out _ _ ⟨.inl ⟨1, ?_, rfl⟩, HB2.out⟩
   rw [ck_8, HR.out]
   show bx (mu (lkL fs) ns r 1) _ = _
   rw [HR2.out]
   rfl
  ·refine ⟨rfl, HG0.out _ _ ⟨.inr ⟨k1, a1, ?_, b1, rfl, hb1⟩, HB1.out.trans (hw.mono HB1.out.size)⟩⟩
   rw [ck_8, HR.out]
   show bx (mu (lkL fs) ns r 1) _ = _
   rw [hr]
   rfl
 ·refine ⟨rfl, HG0.out _ _ ⟨.inr ⟨k1, a1, ?_, b1, rfl, hb1⟩, hw⟩⟩
  rw [ck_8, hr]
  rfl
end Go.Proofs.YtnfhpdbbfejioaaGreatDoor
