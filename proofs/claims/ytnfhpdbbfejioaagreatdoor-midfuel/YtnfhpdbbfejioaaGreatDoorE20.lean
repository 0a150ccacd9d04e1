/- CI CJ CK -/
import Derived.Test.YtnfhpdbbfejioaaGreatDoorE19
namespace Go.Proofs.YtnfhpdbbfejioaaGreatDoor
set_option linter.unusedVariables false
set_option linter.unusedSimpArgs false
set_option maxRecDepth 100000
set_option maxHeartbeats 16000000
open Go Go.RowKit
theorem cks_e (lk : By → Option Nm) (x : X (Nm × Nat)) : (bx x fun s' => cks lk (.slice [] []) s') = x := by
 cases x with
 | error e => rfl
 | ok s => show cks lk ce s = _; rw [cks_ce]
theorem cks_1 (lk : By → Option Nm) (a : Int) (nm : By) (ix v th el : Tr) (s : Nm × Nat) : cks lk (cc (st 1 a nm ix v th el) ce) s = bx (ck lk s.1 v []) fun t => addV s (nm, t) a := by
 rw [cks, cks_e]
 simp
theorem cks_2 (lk : By → Option Nm) (a : Int) (nm : By) (ix v th el : Tr) (s : Nm × Nat) : cks lk (cc (st 2 a nm ix v th el) ce) s = (match fndN s.1 nm with | none => .error (7, a) | some k => bx (mu lk s.1 v k) fun _ => .ok s) := by
 rw [cks, cks_e]
 simp
 cases fndN s.1 nm <;> rfl
theorem cks_3 (lk : By → Option Nm) (a : Int) (nm : By) (ix v th el : Tr) (s : Nm × Nat) : cks lk (cc (st 3 a nm ix v th el) ce) s = (match fndN s.1 nm with | none => .error (7, a) | some k => if k ≠ 2 then .error (1, a) else bx (mu lk s.1 ix 1) fun _ => bx (mu lk s.1 v 1) fun _ => .ok s) := by
 rw [cks, cks_e]
 simp
 cases fndN s.1 nm <;> simp
theorem cks_d (lk : By → Option Nm) (c a : Int) (nm : By) (ix v th el : Tr) (s : Nm × Nat) (h1 : c ≠ 1) (h2 : c ≠ 2) (h3 : c ≠ 3) : cks lk (cc (st c a nm ix v th el) ce) s = bx (mu lk s.1 v 1) fun _ => bx (blkV lk th s) fun s1 => blkV lk el s1 := by
 rw [cks, cks_e]
 rw [if_neg h1, if_neg h2, if_neg h3]
 congr 1
 funext _
 unfold blkV
 rw [qw]
 rfl
theorem st_one {S : Nat → Prop} {w : World} {c a : Int} {nm : By} {ix v th el : Tr} {cs : Array Value} (h : StAt S w (cc (st c a nm ix v th el) ce) cs.toList) : ∃ (vi vv : Option Addr) (vt ve : Value) (nt ne : Nat) (ts es : List Value), cs = #[.int .i64 c, .int .i64 a, str nm, .pointer vi, .pointer vv, vt, ve] ∧ ExAt S w ix (.pointer vi) ∧ ExAt S w v (.pointer vv) ∧ RowS S w 147 7 vt nt ts ∧ StAt S w th ts ∧ RowS S w 147 7 ve ne es ∧ StAt S w el es := by
 obtain ⟨vi, vv, vt, ve, nt, ne, ts, es, rest, e, a1, a2, a3, a4, a5, a6, a7⟩ := st_open h
 have hr : rest = [] := by
  have : StAt S w (.slice [] []) rest := a7
  rw [StAt] at this
  exact this
 subst hr
 refine ⟨vi, vv, vt, ve, nt, ne, ts, es, ?_, a1, a2, a3, a4, a5, a6⟩
 have := congrArg List.toArray e
 rw [Array.toArray_toList] at this
 exact this
theorem st_rest {c a : Int} {nm : By} {ix v th el : Tr} (h4 : 4 ≤ c) (h8 : c ≤ 8) (IV : MuC v) (IT : BlC th) (IE : BlC el) : StC (st c a nm ix v th el) := by
 intro w C fv mv nv fs ns k cs hs hf hst
 obtain ⟨vi, vv, vt, ve, nt, ne, ts, es, rfl, hxi, hxv, hrt, hst1, hre, hse⟩ := st_one hst
 obtain ⟨y, hy, hyt⟩ := zM nm
 rw [hy]
 have HY : Hid (y.data.toList = nm) := hyt
 obtain ⟨s5, c5, rfl⟩ := zd hrt.1
 obtain ⟨s6, c6, rfl⟩ := zd hre.1
 obtain ⟨W0, hW0⟩ : ∃ W0, W0 = w.alloc (.cells #[.int .i64 c, .int .i64 a, .string y, .pointer vi, .pointer vv, .slice s5 nt c5, .slice s6 ne c6] 147) := ⟨_, rfl⟩
 have hb0 : Below w.heap.size w W0 := by rw [hW0]; exact (Below.refl _ _).alloc (Nat.le_refl _) _
 have hblk0 : W0.heap[w.heap.size]? = some (.cells #[.int .i64 c, .int .i64 a, .string y, .pointer vi, .pointer vv, .slice s5 nt c5, .slice s6 ne c6] 147) := by rw [hW0]; exact heap_alloc_last w _
 have hlo := hb0.mono (Nat.le_of_lt hs.lt)
 have HS0 : Hid (CkS W0 C fv mv nv ns k) := hs.below hb0
 have HF0 : Hid (FxS W0 C fv mv fs) := hf.below hlo
 have HXi : Hid (ExAt (Lo C) W0 ix (.pointer vi)) := (zi hlo).ex hxi
 have HXv : Hid (ExAt (Lo C) W0 v (.pointer vv)) := (zi hlo).ex hxv
 have HRt : Hid (RowS (Lo C) W0 147 7 (.slice s5 nt c5) nt ts) := hrt.kept (zi hlo) (by decide)
 have HSt : Hid (StAt (Lo C) W0 th ts) := StAt.kept (zi hlo) _ _ hst1
 have HRe : Hid (RowS (Lo C) W0 147 7 (.slice s6 ne c6) ne es) := hre.kept (zi hlo) (by decide)
 have HSe : Hid (StAt (Lo C) W0 el es) := StAt.kept (zi hlo) _ _ hse
 have HB0 : Hid (Below C w W0) := hlo
 have HK0 : Hid (Kt w W0) := zA hb0
 have HBk : Hid (W0.heap[w.heap.size]? = some (.cells #[.int .i64 c, .int .i64 a, .string y, .pointer vi, .pointer vv, .slice s5 nt c5, .slice s6 ne c6] 147)) := hblk0
 have HCl : Hid (C < w.heap.size) := hs.lt
 have z0 := z_ (i := 0) hblk0 rfl
 have z1 := z_ (i := 1) hblk0 rfl
 have z2 := z_ (i := 2) hblk0 rfl
 have z3 := z_ (i := 3) hblk0 rfl
 have z4 := z_ (i := 4) hblk0 rfl
 rw [hW0] at z0 z1 z2 z3 z4
 have n1 : ((c : Int) == 1) = false := by simp; omega
 have n2 : ((c : Int) == 2) = false := by simp; omega
 have n3 : ((c : Int) == 3) = false := by simp; omega
 have HE : Hid (cks (lkL fs) (cc (st c a nm ix v th el) ce) (ns, k) = bx (mu (lkL fs) ns v 1) fun _ => bx (blkV (lkL fs) th (ns, k)) fun s1 => blkV (lkL fs) el s1) := cks_d (lkL fs) c a nm ix v th el (ns, k) (by omega) (by omega) (by omega)
 have HG0 : Hid (∀ e w', CkP (cks (lkL fs) (cc (st c a nm ix v th el) ce) (ns, k)) C fv mv w e w' → CkP (cks (lkL fs) (cc (st c a nm ix v th el) ce) (ns, k)) C fv mv w e w') := fun _ _ h => h
 generalize hG : CkP (cks (lkL fs) (cc (st c a nm ix v th el) ce) (ns, k)) C fv mv w = G at *
 clear HG0
 have HG0 : Hid (∀ e w', CkP (cks (lkL fs) (cc (st c a nm ix v th el) ce) (ns, k)) C fv mv w e w' → G e w') := fun e w' h => by rw [← hG]; exact h
 generalize cks (lkL fs) (cc (st c a nm ix v th el) ce) (ns, k) = R0 at *
 clear hs hf hst hxi hxv hrt hst1 hre hse hy hyt hb0 hblk0 hlo hG
 go_enter Tryz.func103, Tryz.ntmps103
 go_wp2_with (go_at_call 157; fail)
 rw [← hW0]
 clear hW0 z0 z1 z2 z3 z4
 refine (IV W0 C fv mv nv fs ns k _ 1 HS0.out HF0.out HXv.out).mono ?_
 rintro e w1 ⟨⟨hr, rfl⟩ | ⟨k1, a1, hr, b1, rfl, hb1⟩, hw⟩
 rotate_left
 ·refine ⟨rfl, HG0.out _ _ ⟨.inr ⟨k1, a1, ?_, b1, rfl, hb1⟩, HB0.out.trans (hw.mono (Nat.le_of_lt HS0.out.lt)), HK0.out.trans (zA hw)⟩⟩
  rw [HE.out, hr]
  rfl
 have hlo := hw.mono (Nat.le_of_lt HS0.out.lt)
 have HR1 : Hid (mu (lkL fs) ns v 1 = .ok ()) := hr
 have HS1 : Hid (CkS w1 C fv mv nv ns k) := HS0.out.below hw
 have HF1 : Hid (FxS w1 C fv mv fs) := HF0.out.below hlo
 have HRt1 : Hid (RowS (Lo C) w1 147 7 (.slice s5 nt c5) nt ts) := HRt.out.kept (zi hlo) (by decide)
 have HSt1 : Hid (StAt (Lo C) w1 th ts) := StAt.kept (zi hlo) _ _ HSt.out
 have HRe1 : Hid (RowS (Lo C) w1 147 7 (.slice s6 ne c6) ne es) := HRe.out.kept (zi hlo) (by decide)
 have HSe1 : Hid (StAt (Lo C) w1 el es) := StAt.kept (zi hlo) _ _ HSe.out
 have HB1 : Hid (Below C w w1) := HB0.out.trans hlo
 have HK1 : Hid (Kt w w1) := HK0.out.trans (zA hw)
 have hbk1 := blk_at (C := C) HBk.out hw
 have z5 := z_ (i := 5) hbk1 rfl
 have HBk1 : Hid (w1.heap[w.heap.size]? = some (.cells #[.int .i64 c, .int .i64 a, .string y, .pointer vi, .pointer vv, .slice s5 nt c5, .slice s6 ne c6] 147)) := hbk1
 clear hlo hw hr hbk1
 go_wp2_with (go_at_call 66; fail)
 refine (IT w1 C fv mv nv fs ns k _ nt ts HS1.out HF1.out HRt1.out HSt1.out).mono ?_
 rintro e w2 ⟨⟨ns2, k2, nv2, hr, rfl, hs2⟩ | ⟨k1, a1, hr, b1, rfl, hb1⟩, hw, hkt⟩
 rotate_left
 ·refine ⟨rfl, HG0.out _ _ ⟨.inr ⟨k1, a1, ?_, b1, rfl, hb1⟩, HB1.out.trans hw, HK1.out.trans hkt⟩⟩
  rw [HE.out, HR1.out]
  show bx (blkV (lkL fs) th (ns, k)) _ = _
  rw [hr]
  rfl
 have HR2 : Hid (blkV (lkL fs) th (ns, k) = .ok (ns2, k2)) := hr
 have HS2 : Hid (CkS w2 C fv mv nv2 ns2 k2) := hs2
 have HF2 : Hid (FxS w2 C fv mv fs) := HF1.out.below hw
 have HRe2 : Hid (RowS (Lo C) w2 147 7 (.slice s6 ne c6) ne es) := HRe1.out.kept (zi hw) (by decide)
 have HSe2 : Hid (StAt (Lo C) w2 el es) := StAt.kept (zi hw) _ _ HSe1.out
 have HB2 : Hid (Below C w w2) := HB1.out.trans hw
 have HK2 : Hid (Kt w w2) := HK1.out.trans hkt
 have hbk2 := hkt _ _ 147 (by decide) (by decide) HBk1.out
 have z6 := z_ (i := 6) hbk2 rfl
 clear hr hs2 hw hkt hbk2 z5
 go_wp2_with (go_at_call 66; fail)
 refine (IE w2 C fv mv nv2 fs ns2 k2 _ ne es HS2.out HF2.out HRe2.out HSe2.out).mono ?_
 rintro e w3 ⟨⟨ns3, k3, nv3, hr, rfl, hs3⟩ | ⟨k1, a1, hr, b1, rfl, hb1⟩, hw, hkt⟩
 rotate_left
 ·refine ⟨rfl, HG0.out _ _ ⟨.inr ⟨k1, a1, ?_, b1, rfl, hb1⟩, HB2.out.trans hw, HK2.out.trans hkt⟩⟩
  rw [HE.out, HR1.out]
  show bx (blkV (lkL fs) th (ns, k)) _ = _
  rw [HR2.out]
  exact hr
 have HEnd : Hid (G (.returned (.tuple #[])) w3) := HG0.out _ _ ⟨.inl ⟨ns3, k3, nv3, by
  rw [HE.out, HR1.out]
  show bx (blkV (lkL fs) th (ns, k)) _ = _
  rw [HR2.out]
  exact hr, rfl, hs3⟩, HB2.out.trans hw, HK2.out.trans hkt⟩
 clear hr hs3 hw hkt z6
 go_wp2
 go_end0
 exact HEnd.out
theorem st_var {a : Int} {nm : By} {ix v th el : Tr} (IV : TyC v) : StC (st 1 a nm ix v th el) := by
 intro w C fv mv nv fs ns k cs hs hf hst
 obtain ⟨vi, vv, vt, ve, nt, ne, ts, es, rfl, hxi, hxv, hrt, hst1, hre, hse⟩ := st_one hst
 obtain ⟨y, hy, hyt⟩ := zM nm
 rw [hy]
 have HY : Hid (y.data.toList = nm) := hyt
 obtain ⟨s5, c5, rfl⟩ := zd hrt.1
 obtain ⟨s6, c6, rfl⟩ := zd hre.1
 obtain ⟨W0, hW0⟩ : ∃ W0, W0 = w.alloc (.cells #[.int .i64 1, .int .i64 a, .string y, .pointer vi, .pointer vv, .slice s5 nt c5, .slice s6 ne c6] 147) := ⟨_, rfl⟩
 have hb0 : Below w.heap.size w W0 := by rw [hW0]; exact (Below.refl _ _).alloc (Nat.le_refl _) _
 have hblk0 : W0.heap[w.heap.size]? = some (.cells #[.int .i64 1, .int .i64 a, .string y, .pointer vi, .pointer vv, .slice s5 nt c5, .slice s6 ne c6] 147) := by rw [hW0]; exact heap_alloc_last w _
 have hlo := hb0.mono (Nat.le_of_lt hs.lt)
 have HS0 : Hid (CkS W0 C fv mv nv ns k) := hs.below hb0
 have HF0 : Hid (FxS W0 C fv mv fs) := hf.below hlo
 have HXi : Hid (ExAt (Lo C) W0 ix (.pointer vi)) := (zi hlo).ex hxi
 have HXv : Hid (ExAt (Lo C) W0 v (.pointer vv)) := (zi hlo).ex hxv
 have HRt : Hid (RowS (Lo C) W0 147 7 (.slice s5 nt c5) nt ts) := hrt.kept (zi hlo) (by decide)
 have HSt : Hid (StAt (Lo C) W0 th ts) := StAt.kept (zi hlo) _ _ hst1
 have HRe : Hid (RowS (Lo C) W0 147 7 (.slice s6 ne c6) ne es) := hre.kept (zi hlo) (by decide)
 have HSe : Hid (StAt (Lo C) W0 el es) := StAt.kept (zi hlo) _ _ hse
 have HB0 : Hid (Below C w W0) := hlo
 have HK0 : Hid (Kt w W0) := zA hb0
 have HBk : Hid (W0.heap[w.heap.size]? = some (.cells #[.int .i64 1, .int .i64 a, .string y, .pointer vi, .pointer vv, .slice s5 nt c5, .slice s6 ne c6] 147)) := hblk0
 have HCl : Hid (C < w.heap.size) := hs.lt
 have z0 := z_ (i := 0) hblk0 rfl
 have z1 := z_ (i := 1) hblk0 rfl
 have z2 := z_ (i := 2) hblk0 rfl
 have z3 := z_ (i := 3) hblk0 rfl
 have z4 := z_ (i := 4) hblk0 rfl
 rw [hW0] at z0 z1 z2 z3 z4
 have HE : Hid (cks (lkL fs) (cc (st 1 a nm ix v th el) ce) (ns, k) = bx (ck (lkL fs) ns v []) fun t => addV (ns, k) (nm, t) a) := cks_1 (lkL fs) a nm ix v th el (ns, k)
 have HG0 : Hid (∀ e w', CkP (cks (lkL fs) (cc (st 1 a nm ix v th el) ce) (ns, k)) C fv mv w e w' → CkP (cks (lkL fs) (cc (st 1 a nm ix v th el) ce) (ns, k)) C fv mv w e w') := fun _ _ h => h
 generalize hG : CkP (cks (lkL fs) (cc (st 1 a nm ix v th el) ce) (ns, k)) C fv mv w = G at *
 clear HG0
 have HG0 : Hid (∀ e w', CkP (cks (lkL fs) (cc (st 1 a nm ix v th el) ce) (ns, k)) C fv mv w e w' → G e w') := fun e w' h => by rw [← hG]; exact h
 generalize cks (lkL fs) (cc (st 1 a nm ix v th el) ce) (ns, k) = R0 at *
 clear hs hf hst hxi hxv hrt hst1 hre hse hy hyt hb0 hblk0 hlo hG
 have HSd : Hid (CkS W0.drew C fv mv nv ns k) := HS0.out.below (Below.refl _ _).drew
 have HFd : Hid (FxS W0.drew C fv mv fs) := HF0.out.below (Below.refl _ _).drew
 have HXvd : Hid (ExAt (Lo C) W0.drew v (.pointer vv)) := (zi (Below.refl _ _).drew).ex HXv.out
 have HXid : Hid (ExAt (Lo C) W0.drew ix (.pointer vi)) := (zi (Below.refl _ _).drew).ex HXi.out
 have HBkd : Hid (W0.drew.heap[w.heap.size]? = some (.cells #[.int .i64 1, .int .i64 a, .string y, .pointer vi, .pointer vv, .slice s5 nt c5, .slice s6 ne c6] 147)) := HBk.out
 have HBd : Hid (∀ w', Below W0.drew.heap.size W0.drew w' → Below C w w' ∧ Kt w w') := fun w' h => by
  have h1 : Below W0.heap.size W0 w' := (Below.refl _ _).drew.trans h
  exact ⟨HB0.out.trans (h1.mono (Nat.le_of_lt HS0.out.lt)), HK0.out.trans (zA h1)⟩
 go_enter Tryz.func103, Tryz.ntmps103
 go_wp2_with fail
 rw [← hW0] at z0 z1 z2 z3 z4 ⊢
 clear hW0
 go_region_with (first
  |(go_at_call 156; refine (IV W0.drew C fv mv nv fs ns k _ HSd.out HFd.out HXvd.out).mono ?_; rintro e w1 ⟨⟨t, hr, rfl⟩ | ⟨k1, a1, hr, b1, rfl, hb1⟩, hw⟩; rotate_left; exact (by refine ⟨rfl, HG0.out _ _ ⟨.inr ⟨k1, a1, ?_, b1, rfl, hb1⟩, (HBd.out _ hw).1, (HBd.out _ hw).2⟩⟩; rw [HE.out, hr]; rfl); have HR1 : Hid (ck (lkL fs) ns v [] = .ok t) := hr; have HS1 : Hid (CkS w1 C fv mv nv ns k) := HSd.out.below hw; have HB1 : Hid (Below C w w1 ∧ Kt w w1) := HBd.out _ hw; have hbk1 := blk_at (C := C) HBkd.out hw; have y1 := z_ (i := 1) hbk1 rfl; have y2 := z_ (i := 2) hbk1 rfl; clear hr hw hbk1)
  |(go_at_call 65; refine (add_any HS1.out y t a).mono ?_; rintro e w2 ⟨⟨ns2, k2, nv2, hr, rfl, hs2⟩ | ⟨k1, a1, hr, b1, rfl, hb1⟩, hw, hkt⟩; rotate_left; exact (by refine ⟨rfl, HG0.out _ _ ⟨.inr ⟨k1, a1, ?_, b1, rfl, hb1⟩, HB1.out.1.trans hw, HB1.out.2.trans hkt⟩⟩; rw [HE.out, HR1.out]; show addV (ns, k) (nm, t) a = _; rw [← HY.out]; exact hr); have HEnd : Hid (G (.returned (.tuple #[])) w2) := HG0.out _ _ ⟨.inl ⟨ns2, k2, nv2, (by rw [HE.out, HR1.out]; show addV (ns, k) (nm, t) a = _; rw [← HY.out]; exact hr), rfl, hs2⟩, HB1.out.1.trans hw, HB1.out.2.trans hkt⟩; clear hr hs2 hw hkt))
 all_goals
  go_wp2
  go_end0
  exact HEnd.out
theorem st_set {a : Int} {nm : By} {ix v th el : Tr} (IV : MuC v) : StC (st 2 a nm ix v th el) := by
 intro w C fv mv nv fs ns k cs hs hf hst
 obtain ⟨vi, vv, vt, ve, nt, ne, ts, es, rfl, hxi, hxv, hrt, hst1, hre, hse⟩ := st_one hst
 obtain ⟨y, hy, hyt⟩ := zM nm
 rw [hy]
 have HY : Hid (y.data.toList = nm) := hyt
 obtain ⟨s5, c5, rfl⟩ := zd hrt.1
 obtain ⟨s6, c6, rfl⟩ := zd hre.1
 obtain ⟨W0, hW0⟩ : ∃ W0, W0 = w.alloc (.cells #[.int .i64 2, .int .i64 a, .string y, .pointer vi, .pointer vv, .slice s5 nt c5, .slice s6 ne c6] 147) := ⟨_, rfl⟩
 have hb0 : Below w.heap.size w W0 := by rw [hW0]; exact (Below.refl _ _).alloc (Nat.le_refl _) _
 have hblk0 : W0.heap[w.heap.size]? = some (.cells #[.int .i64 2, .int .i64 a, .string y, .pointer vi, .pointer vv, .slice s5 nt c5, .slice s6 ne c6] 147) := by rw [hW0]; exact heap_alloc_last w _
 have hlo := hb0.mono (Nat.le_of_lt hs.lt)
 have HS0 : Hid (CkS W0 C fv mv nv ns k) := hs.below hb0
 have HF0 : Hid (FxS W0 C fv mv fs) := hf.below hlo
 have HXi : Hid (ExAt (Lo C) W0 ix (.pointer vi)) := (zi hlo).ex hxi
 have HXv : Hid (ExAt (Lo C) W0 v (.pointer vv)) := (zi hlo).ex hxv
 have HRt : Hid (RowS (Lo C) W0 147 7 (.slice s5 nt c5) nt ts) := hrt.kept (zi hlo) (by decide)
 have HSt : Hid (StAt (Lo C) W0 th ts) := StAt.kept (zi hlo) _ _ hst1
 have HRe : Hid (RowS (Lo C) W0 147 7 (.slice s6 ne c6) ne es) := hre.kept (zi hlo) (by decide)
 have HSe : Hid (StAt (Lo C) W0 el es) := StAt.kept (zi hlo) _ _ hse
 have HB0 : Hid (Below C w W0) := hlo
 have HK0 : Hid (Kt w W0) := zA hb0
 have HBk : Hid (W0.heap[w.heap.size]? = some (.cells #[.int .i64 2, .int .i64 a, .string y, .pointer vi, .pointer vv, .slice s5 nt c5, .slice s6 ne c6] 147)) := hblk0
 have HCl : Hid (C < w.heap.size) := hs.lt
 have z0 := z_ (i := 0) hblk0 rfl
 have z1 := z_ (i := 1) hblk0 rfl
 have z2 := z_ (i := 2) hblk0 rfl
 have z3 := z_ (i := 3) hblk0 rfl
 have z4 := z_ (i := 4) hblk0 rfl
 rw [hW0] at z0 z1 z2 z3 z4
 have HE : Hid (cks (lkL fs) (cc (st 2 a nm ix v th el) ce) (ns, k) = (match fndN ns nm with | none => .error (7, a) | some q => bx (mu (lkL fs) ns v q) fun _ => .ok (ns, k))) := cks_2 (lkL fs) a nm ix v th el (ns, k)
 have HG0 : Hid (∀ e w', CkP (cks (lkL fs) (cc (st 2 a nm ix v th el) ce) (ns, k)) C fv mv w e w' → CkP (cks (lkL fs) (cc (st 2 a nm ix v th el) ce) (ns, k)) C fv mv w e w') := fun _ _ h => h
 generalize hG : CkP (cks (lkL fs) (cc (st 2 a nm ix v th el) ce) (ns, k)) C fv mv w = G at *
 clear HG0
 have HG0 : Hid (∀ e w', CkP (cks (lkL fs) (cc (st 2 a nm ix v th el) ce) (ns, k)) C fv mv w e w' → G e w') := fun e w' h => by rw [← hG]; exact h
 generalize cks (lkL fs) (cc (st 2 a nm ix v th el) ce) (ns, k) = R0 at *
 clear hs hf hst hxi hxv hrt hst1 hre hse hy hyt hb0 hblk0 hlo hG
 have HSd : Hid (CkS W0.drew C fv mv nv ns k) := HS0.out.below (Below.refl _ _).drew
 have HFd : Hid (FxS W0.drew C fv mv fs) := HF0.out.below (Below.refl _ _).drew
 have HXvd : Hid (ExAt (Lo C) W0.drew v (.pointer vv)) := (zi (Below.refl _ _).drew).ex HXv.out
 have HXid : Hid (ExAt (Lo C) W0.drew ix (.pointer vi)) := (zi (Below.refl _ _).drew).ex HXi.out
 have HBkd : Hid (W0.drew.heap[w.heap.size]? = some (.cells #[.int .i64 2, .int .i64 a, .string y, .pointer vi, .pointer vv, .slice s5 nt c5, .slice s6 ne c6] 147)) := HBk.out
 have HBd : Hid (∀ w', Below W0.drew.heap.size W0.drew w' → Below C w w' ∧ Kt w w') := fun w' h => by
  have h1 : Below W0.heap.size W0 w' := (Below.refl _ _).drew.trans h
  exact ⟨HB0.out.trans (h1.mono (Nat.le_of_lt HS0.out.lt)), HK0.out.trans (zA h1)⟩
 go_enter Tryz.func103, Tryz.ntmps103
 go_wp2_with fail
 rw [← hW0] at z0 z1 z2 z3 z4 ⊢
 clear hW0
 go_region_with (first
  |(go_at_call 158; refine (variable_any HSd.out y a).mono ?_; rintro e w1 ⟨⟨t, hr, rfl⟩ | ⟨hr, b1, rfl, hb1⟩, hw⟩; rotate_left; exact (by refine ⟨rfl, HG0.out _ _ ⟨.inr ⟨7, a, ?_, b1, rfl, hb1⟩, (HBd.out _ hw).1, (HBd.out _ hw).2⟩⟩; rw [HE.out, ← HY.out, hr]); have HR1 : Hid (fndN ns y.data.toList = some t) := hr; have HS1 : Hid (CkS w1 C fv mv nv ns k) := HSd.out.below hw; have HF1 : Hid (FxS w1 C fv mv fs) := HFd.out.below (hw.mono (Nat.le_of_lt HSd.out.lt)); have HX1 : Hid (ExAt (Lo C) w1 v (.pointer vv)) := (zi (hw.mono (Nat.le_of_lt HSd.out.lt))).ex HXvd.out; have HB1 : Hid (Below C w w1 ∧ Kt w w1) := HBd.out _ hw; have hbk1 := blk_at (C := C) HBkd.out hw; have y4 := z_ (i := 4) hbk1 rfl; clear hr hw hbk1)
  |(go_at_call 157; refine (IV w1 C fv mv nv fs ns k _ t HS1.out HF1.out HX1.out).mono ?_; rintro e w2 ⟨⟨hr, rfl⟩ | ⟨k1, a1, hr, b1, rfl, hb1⟩, hw⟩; rotate_left; exact (by refine ⟨rfl, HG0.out _ _ ⟨.inr ⟨k1, a1, ?_, b1, rfl, hb1⟩, HB1.out.1.trans (hw.mono (Nat.le_of_lt HS1.out.lt)), HB1.out.2.trans (zA hw)⟩⟩; rw [HE.out, ← HY.out, HR1.out]; show bx (mu (lkL fs) ns v t) _ = _; rw [hr]; rfl); have HEnd : Hid (G (.returned (.tuple #[])) w2) := HG0.out _ _ ⟨.inl ⟨ns, k, nv, (by rw [HE.out, ← HY.out, HR1.out]; show bx (mu (lkL fs) ns v t) _ = _; rw [hr]; rfl), rfl, HS1.out.below hw⟩, HB1.out.1.trans (hw.mono (Nat.le_of_lt HS1.out.lt)), HB1.out.2.trans (zA hw)⟩; clear hr hw))
 all_goals
  go_wp2
  go_end0
  exact HEnd.out
theorem st_put {a : Int} {nm : By} {ix v th el : Tr} (IX : MuC ix) (IV : MuC v) : StC (st 3 a nm ix v th el) := by
 intro w C fv mv nv fs ns k cs hs hf hst
 obtain ⟨vi, vv, vt, ve, nt, ne, ts, es, rfl, hxi, hxv, hrt, hst1, hre, hse⟩ := st_one hst
 obtain ⟨y, hy, hyt⟩ := zM nm
 rw [hy]
 have HY : Hid (y.data.toList = nm) := hyt
 obtain ⟨s5, c5, rfl⟩ := zd hrt.1
 obtain ⟨s6, c6, rfl⟩ := zd hre.1
 obtain ⟨W0, hW0⟩ : ∃ W0, W0 = w.alloc (.cells #[.int .i64 3, .int .i64 a, .string y, .pointer vi, .pointer vv, .slice s5 nt c5, .slice s6 ne c6] 147) := ⟨_, rfl⟩
 have hb0 : Below w.heap.size w W0 := by rw [hW0]; exact (Below.refl _ _).alloc (Nat.le_refl _) _
 have hblk0 : W0.heap[w.heap.size]? = some (.cells #[.int .i64 3, .int .i64 a, .string y, .pointer vi, .pointer vv, .slice s5 nt c5, .slice s6 ne c6] 147) := by rw [hW0]; exact heap_alloc_last w _
 have hlo := hb0.mono (Nat.le_of_lt hs.lt)
 have HS0 : Hid (CkS W0 C fv mv nv ns k) := hs.below hb0
 have HF0 : Hid (FxS W0 C fv mv fs) := hf.below hlo
 have HXi : Hid (ExAt (Lo C) W0 ix (.pointer vi)) := (zi hlo).ex hxi
 have HXv : Hid (ExAt (Lo C) W0 v (.pointer vv)) := (zi hlo).ex hxv
 have HRt : Hid (RowS (Lo C) W0 147 7 (.slice s5 nt c5) nt ts) := hrt.kept (zi hlo) (by decide)
 have HSt : Hid (StAt (Lo C) W0 th ts) := StAt.kept (zi hlo) _ _ hst1
 have HRe : Hid (RowS (Lo C) W0 147 7 (.slice s6 ne c6) ne es) := hre.kept (zi hlo) (by decide)
 have HSe : Hid (StAt (Lo C) W0 el es) := StAt.kept (zi hlo) _ _ hse
 have HB0 : Hid (Below C w W0) := hlo
 have HK0 : Hid (Kt w W0) := zA hb0
 have HBk : Hid (W0.heap[w.heap.size]? = some (.cells #[.int .i64 3, .int .i64 a, .string y, .pointer vi, .pointer vv, .slice s5 nt c5, .slice s6 ne c6] 147)) := hblk0
 have HCl : Hid (C < w.heap.size) := hs.lt
 have z0 := z_ (i := 0) hblk0 rfl
 have z1 := z_ (i := 1) hblk0 rfl
 have z2 := z_ (i := 2) hblk0 rfl
 have z3 := z_ (i := 3) hblk0 rfl
 have z4 := z_ (i := 4) hblk0 rfl
 rw [hW0] at z0 z1 z2 z3 z4
 have HE : Hid (cks (lkL fs) (cc (st 3 a nm ix v th el) ce) (ns, k) = (match fndN ns nm with | none => .error (7, a) | some q => if q ≠ 2 then .error (1, a) else bx (mu (lkL fs) ns ix 1) fun _ => bx (mu (lkL fs) ns v 1) fun _ => .ok (ns, k))) := cks_3 (lkL fs) a nm ix v th el (ns, k)
 have HG0 : Hid (∀ e w', CkP (cks (lkL fs) (cc (st 3 a nm ix v th el) ce) (ns, k)) C fv mv w e w' → CkP (cks (lkL fs) (cc (st 3 a nm ix v th el) ce) (ns, k)) C fv mv w e w') := fun _ _ h => h
 generalize hG : CkP (cks (lkL fs) (cc (st 3 a nm ix v th el) ce) (ns, k)) C fv mv w = G at *
 clear HG0
 have HG0 : Hid (∀ e w', CkP (cks (lkL fs) (cc (st 3 a nm ix v th el) ce) (ns, k)) C fv mv w e w' → G e w') := fun e w' h => by rw [← hG]; exact h
 generalize cks (lkL fs) (cc (st 3 a nm ix v th el) ce) (ns, k) = R0 at *
 clear hs hf hst hxi hxv hrt hst1 hre hse hy hyt hb0 hblk0 hlo hG
 have HBd : Hid (∀ w', Below W0.heap.size W0 w' → Below C w w' ∧ Kt w w') := fun w' h1 => ⟨HB0.out.trans (h1.mono (Nat.le_of_lt HS0.out.lt)), HK0.out.trans (zA h1)⟩
 go_enter Tryz.func103, Tryz.ntmps103
 go_wp2_with (go_at_call 158; fail)
 rw [← hW0]
 clear hW0 z0 z1 z2 z3 z4
 refine (variable_any HS0.out y a).mono ?_
 rintro e w1 ⟨⟨t, hr, rfl⟩ | ⟨hr, b1, rfl, hb1⟩, hw⟩
 rotate_left
 ·refine ⟨rfl, HG0.out _ _ ⟨.inr ⟨7, a, ?_, b1, rfl, hb1⟩, (HBd.out _ hw).1, (HBd.out _ hw).2⟩⟩
  rw [HE.out, ← HY.out, hr]
 have HR1 : Hid (fndN ns y.data.toList = some t) := hr
 have hlo0 := hw.mono (Nat.le_of_lt HS0.out.lt)
 have HS1 : Hid (CkS w1 C fv mv nv ns k) := HS0.out.below hw
 have HF1 : Hid (FxS w1 C fv mv fs) := HF0.out.below hlo0
 have HX1 : Hid (ExAt (Lo C) w1 v (.pointer vv)) := (zi hlo0).ex HXv.out
 have HXi1 : Hid (ExAt (Lo C) w1 ix (.pointer vi)) := (zi hlo0).ex HXi.out
 have HB1 : Hid (Below C w w1 ∧ Kt w w1) := HBd.out _ hw
 have hbk1 := blk_at (C := C) HBk.out hw
 have y1 := z_ (i := 1) hbk1 rfl
 have y3 := z_ (i := 3) hbk1 rfl
 have HBk1 : Hid (w1.heap[w.heap.size]? = some (.cells #[.int .i64 3, .int .i64 a, .string y, .pointer vi, .pointer vv, .slice s5 nt c5, .slice s6 ne c6] 147)) := hbk1
 clear hr hw hbk1 hlo0
 all_goals
  by_cases ht : t = 2
  ·subst ht
   go_wp2_with (go_at_call 157; fail)
   refine (IX w1 C fv mv nv fs ns k _ 1 HS1.out HF1.out HXi1.out).mono ?_
   rintro e w2 ⟨⟨hr, rfl⟩ | ⟨k1, a1, hr, b1, rfl, hb1⟩, hw⟩
   rotate_left
   ·refine ⟨rfl, HG0.out _ _ ⟨.inr ⟨k1, a1, ?_, b1, rfl, hb1⟩, HB1.out.1.trans (hw.mono (Nat.le_of_lt HS1.out.lt)), HB1.out.2.trans (zA hw)⟩⟩
    rw [HE.out, ← HY.out, HR1.out]
    show (if (2 : Int) ≠ 2 then _ else bx (mu (lkL fs) ns ix 1) _) = _
    rw [if_neg (by simp), hr]
    rfl
   have hlo := hw.mono (Nat.le_of_lt HS1.out.lt)
   have HR2 : Hid (mu (lkL fs) ns ix 1 = .ok ()) := hr
   have HS2 : Hid (CkS w2 C fv mv nv ns k) := HS1.out.below hw
   have HF2 : Hid (FxS w2 C fv mv fs) := HF1.out.below hlo
   have HX2 : Hid (ExAt (Lo C) w2 v (.pointer vv)) := (zi hlo).ex HX1.out
   have HB2 : Hid (Below C w w2 ∧ Kt w w2) := ⟨HB1.out.1.trans hlo, HB1.out.2.trans (zA hw)⟩
   have x4 := z_ (i := 4) (blk_at (C := C) HBk1.out hw) rfl
   clear hlo hr hw y1 y3
   go_wp2_with (go_at_call 157; fail)
   refine (IV w2 C fv mv nv fs ns k _ 1 HS2.out HF2.out HX2.out).mono ?_
   rintro e w3 ⟨⟨hr, rfl⟩ | ⟨k1, a1, hr, b1, rfl, hb1⟩, hw⟩
   rotate_left
   ·refine ⟨rfl, HG0.out _ _ ⟨.inr ⟨k1, a1, ?_, b1, rfl, hb1⟩, HB2.out.1.trans (hw.mono (Nat.le_of_lt HS2.out.lt)), HB2.out.2.trans (zA hw)⟩⟩
    rw [HE.out, ← HY.out, HR1.out]
    show (if (2 : Int) ≠ 2 then _ else bx (mu (lkL fs) ns ix 1) _) = _
    rw [if_neg (by simp), HR2.out]
    show bx (mu (lkL fs) ns v 1) _ = _
    rw [hr]
    rfl
   have HEnd : Hid (G (.returned (.tuple #[])) w3) := HG0.out _ _ ⟨.inl ⟨ns, k, nv, (by
    rw [HE.out, ← HY.out, HR1.out]
    show (if (2 : Int) ≠ 2 then _ else bx (mu (lkL fs) ns ix 1) _) = _
    rw [if_neg (by simp), HR2.out]
    show bx (mu (lkL fs) ns v 1) _ = _
    rw [hr]
    rfl), rfl, HS2.out.below hw⟩, HB2.out.1.trans (hw.mono (Nat.le_of_lt HS2.out.lt)), HB2.out.2.trans (zA hw)⟩
   clear hr hw x4
   go_wp2
   go_end0
   exact HEnd.out
  ·have ht' : ((t : Int) == 2) = false := by simpa using ht
   go_wp2_with (go_at_call 64; fail)
   refine (qV 1 a w1).mono ?_
   rintro e w2 ⟨⟨b2, rfl, hb2⟩, hw⟩
   refine ⟨rfl, HG0.out _ _ ⟨.inr ⟨1, a, ?_, b2, rfl, hb2⟩, HB1.out.1.trans (hw.mono (Nat.le_of_lt HS1.out.lt)), HB1.out.2.trans (zA hw)⟩⟩
   rw [HE.out, ← HY.out, HR1.out]
   show (if t ≠ 2 then _ else _) = _
   rw [if_pos ht]
theorem rs_isSt {f d : Nat} {t : Tr} (h : RS f d t) : IsSt t := rs_st h
theorem goodS_mem : ∀ (xs : List Tr), qd (chain xs) → ∀ x ∈ xs, qd (cc x ce)
 | [], _, x, hx => by simp at hx
 | y :: xs, h, x, hx => by
  have h' : qd (cc y (chain xs)) := h
  obtain ⟨c, a, nm, ix, v, th, el, rfl, h1, h2, h3, h4, h5, h6, h7, h8, h9, h10, h11⟩ := goodS_open h'
  rcases List.mem_cons.1 hx with rfl | hx
  ·exact qG h1 h2 h3 h4 h5 h6 h7 h8 h9 h10 zw
  ·exact goodS_mem xs h11 x hx
theorem ty_rex {d : Nat} {t : Tr} (h : REx d t) (g : zF t) : TyC t ∧ MuC t := by
 obtain ⟨e, h⟩ := h
 have := ty_all e d t h g
 exact ⟨this, must_of (re_isNd h) this⟩
theorem st_all : ∀ (f d : Nat) (t : Tr), RS f d t → qd (cc t ce) → StC t
 | 0, _, _, h, _ => h.elim
 | f + 1, d, t, h, hg => by
  have BL : ∀ (d : Nat) (xs : List Tr), (∀ x ∈ xs, RS f d x) → qd (chain xs) → chl (chain xs) ≤ 1000000 → BlC (chain xs) := fun d xs hx g hc => block_of (fun x hx' => ⟨st_all f d x (hx x hx') (goodS_mem xs g x hx'), rs_isSt (hx x hx')⟩) (by rw [chl_chain] at hc; exact hc)
  obtain ⟨c, a, nm, ix, v, th, el, rfl, h1, h2, h3, h4, h5, h6, h7, h8, h9, h10, h11⟩ := goodS_open hg
  rw [RS] at h
  rcases h with ⟨a', nm', v', hn, hv, e⟩ | ⟨a', nm', v', hn, hv, e⟩ | ⟨a', nm', i, v', hn, hi, hv, e⟩ | ⟨a', v', xs, ys, hd, hv, hx, hy, e⟩ | ⟨a', v', xs, hd, hv, hx, e⟩ | ⟨a', v', hv, e⟩ | ⟨a', v', hv, e⟩ | ⟨a', b, nm', xs, hn, ⟨e0, hx⟩, e⟩
  all_goals
   simp only [st, DataW.agg.injEq, List.cons.injEq, DataW.lit.injEq, Lit.int.injEq, Lit.string.injEq, true_and, and_true] at e
   obtain ⟨rfl, rfl, rfl, rfl, rfl, rfl, rfl⟩ := e
  ·exact st_var (ty_rex hv h6).1
  ·exact st_set (ty_rex hv h6).2
  ·exact st_put (ty_rex hi h4).2 (ty_rex hv h6).2
  ·exact st_rest (by omega) (by omega) (ty_rex hv h6).2 (BL _ xs hx h7 h8) (BL _ ys hy h9 h10)
  ·exact st_rest (by omega) (by omega) (ty_rex hv h6).2 (BL _ xs hx h7 h8) (BL (d + 1) [] (fun x hx => by simp at hx) h9 h10)
  ·exact st_rest (by omega) (by omega) (ty_rex hv h6).2 (BL (d + 1) [] (fun x hx => by simp at hx) h7 h8) (BL (d + 1) [] (fun x hx => by simp at hx) h9 h10)
  ·exact st_rest (by omega) (by omega) (ty_rex hv h6).2 (BL (d + 1) [] (fun x hx => by simp at hx) h7 h8) (BL (d + 1) [] (fun x hx => by simp at hx) h9 h10)
  ·have hv : REx 0 (nd 5 b 0 nm' [] .nil .nil (chain xs)) := ⟨e0 + 1, by
    rw [RE]
    exact ⟨by omega, .inr (.inr (.inr (.inr (.inl ⟨_, _, _, hn, hx, rfl⟩))))⟩⟩
   exact st_rest (by omega) (by omega) (ty_rex hv h6).2 (BL (d + 1) [] (fun x hx => by simp at hx) h7 h8) (BL (d + 1) [] (fun x hx => by simp at hx) h9 h10)
theorem body_all {xs : List Tr} {e : Nat} (h : ∀ x ∈ xs, RS e 1 x) (g : qd (chain xs)) (hc : chl (chain xs) ≤ 1000000) : BlC (chain xs) := block_of (fun x hx => ⟨st_all e 1 x (h x hx) (goodS_mem xs g x hx), rs_isSt (h x hx)⟩) (by rw [chl_chain] at hc; exact hc)
def FnP (r : X Unit) (C : Nat) (w : World) (e : Ending) (w' : World) : Prop := ((r = .ok () ∧ e = .returned (.tuple #[])) ∨ (∃ k a, r = .error (k, a) ∧ ThrewI k a e w')) ∧ Below C w w' ∧ Kt w w'
theorem function_any {F : Fun} (IB : BlC F.body) (hp6 : F.ps.length ≤ 1000000) (w : World) (C : Nat) (fv mv nv : Value) (fs : List Fun) (vp vb : Value) (nb : Nat) (bcs : List Value) (nm : ByteArray) (hs : CkS w C fv mv nv [] 0) (hf : FxS w C fv mv fs) (hrp : RowS (Lo C) w 144 2 vp F.ps.length (psC F.ps)) (hrb : RowS (Lo C) w 147 7 vb nb bcs) (hst : StAt (Lo C) w F.body bcs) :
  Calls Tryz.prog 40 #[.pointer (some ⟨C, 0, none⟩), .agg #[.string nm, .int .i64 F.at', vp, vb]] w (FnP (ckF (lkL fs) F) C w) := by
 obtain ⟨qp, cp, rfl⟩ := zd hrp.1
 obtain ⟨qb, cb, rfl⟩ := zd hrb.1
 obtain ⟨at', hat⟩ : ∃ at', at' = F.at' := ⟨_, rfl⟩
 have HAt : Hid (at' = F.at') := hat
 rw [← hat]
 obtain ⟨np, hnp⟩ : ∃ np, np = F.ps.length := ⟨_, rfl⟩
 have HNp : Hid (np = F.ps.length) := hnp
 rw [← hnp] at hrp hp6 ⊢
 obtain ⟨W0, hW0⟩ : ∃ W0, W0 = w.alloc (.cells #[.string nm, .int .i64 at', .slice qp np cp, .slice qb nb cb] 86) := ⟨_, rfl⟩
 have hb0 : Below w.heap.size w W0 := by rw [hW0]; exact (Below.refl _ _).alloc (Nat.le_refl _) _
 have hblk0 : W0.heap[w.heap.size]? = some (.cells #[.string nm, .int .i64 at', .slice qp np cp, .slice qb nb cb] 86) := by rw [hW0]; exact heap_alloc_last w _
 have hlo := hb0.mono (Nat.le_of_lt hs.lt)
 have HS0 : Hid (CkS W0 C fv mv nv [] 0) := hs.below hb0
 have HF0 : Hid (FxS W0 C fv mv fs) := hf.below hlo
 have HRp : Hid (RowS (Lo C) W0 144 2 (.slice qp np cp) np (psC F.ps)) := hrp.kept (zi hlo) (by decide)
 have HRb : Hid (RowS (Lo C) W0 147 7 (.slice qb nb cb) nb bcs) := hrb.kept (zi hlo) (by decide)
 have HSt : Hid (StAt (Lo C) W0 F.body bcs) := StAt.kept (zi hlo) _ _ hst
 have HB0 : Hid (Below C w W0) := hlo
 have HK0 : Hid (Kt w W0) := zA hb0
 have HBk : Hid (W0.heap[w.heap.size]? = some (.cells #[.string nm, .int .i64 at', .slice qp np cp, .slice qb nb cb] 86)) := hblk0
 have z2 := z_ (i := 2) hblk0 rfl
 rw [hW0] at z2
 have HE : Hid (ckF (lkL fs) F = bx (addsV at' F.ps ([], 0)) fun s => bx (cks (lkL fs) F.body s) fun _ => .ok ()) := by show _ = _; rw [HAt.out]; rfl
 have HG0 : Hid (∀ e w', FnP (ckF (lkL fs) F) C w e w' → FnP (ckF (lkL fs) F) C w e w') := fun _ _ h => h
 generalize hG : FnP (ckF (lkL fs) F) C w = G at *
 clear HG0
 have HG0 : Hid (∀ e w', FnP (ckF (lkL fs) F) C w e w' → G e w') := fun e w' h => by rw [← hG]; exact h
 generalize ckF (lkL fs) F = R0 at *
 clear hs hf hrp hrb hst hat hnp hb0 hblk0 hlo hG
 go_enter Tryz.func40, Tryz.ntmps40
 go_wp2_with fail
 rw [← hW0]
 clear hW0 z2
 go_loopw [9] (fun v wr => ∃ i : Nat, i ≤ np ∧ v = .int .i64 i ∧ Hid (∃ (ns1 : Nm) (k1 : Nat) (nv1 : Value), addsV at' F.ps ([], 0) = addsV at' (F.ps.drop i) (ns1, k1) ∧ CkS wr C fv mv nv1 ns1 k1 ∧ Below C W0 wr ∧ Kt W0 wr)) (fun v _ => np - (intOf v).toNat)
 case atStart => exact ⟨0, Nat.zero_le _, rfl, [], 0, nv, by simp, HS0.out, Below.refl _ _, fun _ _ _ _ _ h => h⟩
 case round =>
  obtain ⟨i, hin, rfl, HI⟩ := hrel
  obtain ⟨ns1, k1, nv1, hck, hS1, hB1, hK1⟩ := HI.out
  have HB1 : Hid (Below C W0 wr) := hB1
  have HK1 : Hid (Kt W0 wr) := hK1
  have HS1 : Hid (CkS wr C fv mv nv1 ns1 k1) := hS1
  have HCk : Hid (addsV at' F.ps ([], 0) = addsV at' (F.ps.drop i) (ns1, k1)) := hck
  have hbk := hK1 _ _ 86 (by decide) (by decide) HBk.out
  clear HI hck hS1 hB1 hK1
  by_cases hlt : i < np
  ·obtain ⟨g, cap, e, -, -⟩ := HRp.out.1.form (by omega)
   injection e with e1 e2 e3
   subst e1
   clear e2 e3
   obtain ⟨x, hx⟩ : ∃ x, F.ps[i]? = some x := ⟨F.ps[i]'(by have := HNp.out; omega), List.getElem?_eq_getElem (by have := HNp.out; omega)⟩
   obtain ⟨hc0, hc1⟩ := psC_get F.ps i x hx
   obtain ⟨y, hy, hyt⟩ := zM x.1
   rw [hy] at hc0
   have hrow := (HRp.out.kept (zi HB1.out) (by decide)).1
   have q0 : wr.cell? ⟨g, i * 2, none⟩ = some (.string y) := by
    have := hrow.cells (g := g) rfl (i * 2) _ hc0
    rw [zO] at this
    exact this
   have q1 : wr.cell? ⟨g, i * 2 + 1, none⟩ = some (.int .i64 x.2) := by
    have := hrow.cells (g := g) rfl (i * 2 + 1) _ hc1
    rw [zO] at this
    exact this
   have HSt1 : Hid (addsV at' (F.ps.drop i) (ns1, k1) = bx (addV (ns1, k1) (y.data.toList, x.2) at') fun s' => addsV at' (F.ps.drop (i + 1)) s') := by
    show _ = _
    have e1 : F.ps.drop i = x :: F.ps.drop (i + 1) := by
     rw [List.drop_eq_getElem_cons (by have := HNp.out; omega)]
     congr 1
     have := List.getElem?_eq_getElem (l := F.ps) (i := i) (by have := HNp.out; omega)
     rw [hx] at this
     exact (Option.some.inj this).symm
    rw [e1, hyt]
    rfl
   obtain ⟨ty, hty⟩ : ∃ ty, ty = x.2 := ⟨_, rfl⟩
   rw [← hty] at q1 HSt1
   have hbW : Below wr.heap.size wr (wr.alloc (.cells #[.string y, .int .i64 ty] 144)) := (Below.refl _ _).alloc (Nat.le_refl _) _
   have HSW : Hid (CkS (wr.alloc (.cells #[.string y, .int .i64 ty] 144)) C fv mv nv1 ns1 k1) := HS1.out.below hbW
   have HBW : Hid (Below C W0 (wr.alloc (.cells #[.string y, .int .i64 ty] 144)) ∧ Kt W0 (wr.alloc (.cells #[.string y, .int .i64 ty] 144))) := ⟨HB1.out.trans (hbW.mono (Nat.le_of_lt HS1.out.lt)), HK1.out.trans (zA hbW)⟩
   have z1 : (wr.alloc (.cells #[.string y, .int .i64 ty] 144)).cell? ⟨w.heap.size, 1, none⟩ = some (.int .i64 at') := z_ (i := 1) (qJ hbk _) rfl
   clear hrow hc0 hc1 hx hy hyt hty hbW hbk
   go_wp2_with (go_at_call 65; fail)
   refine (add_any HSW.out y ty at').mono ?_
   rintro e w2 ⟨⟨ns2, k2, nv2, hr, rfl, hs2⟩ | ⟨k3, a3, hr, b1, rfl, hb1⟩, hw, hkt⟩
   ·have HI2 : Hid (∃ (ns1 : Nm) (k1 : Nat) (nv1 : Value), addsV at' F.ps ([], 0) = addsV at' (F.ps.drop (i + 1)) (ns1, k1) ∧ CkS w2 C fv mv nv1 ns1 k1 ∧ Below C W0 w2 ∧ Kt W0 w2) := ⟨ns2, k2, nv2, (by rw [HCk.out, HSt1.out, hr]; rfl), hs2, HBW.out.1.trans hw, HBW.out.2.trans hkt⟩
    clear hr hs2 hw hkt q0 q1 z1
    go_wp2
    exact ⟨⟨i + 1, by omega, by go_num, HI2⟩, by simp [intOf]; omega⟩
   ·refine ⟨rfl, HG0.out _ _ ⟨.inr ⟨k3, a3, ?_, b1, rfl, hb1⟩, HB0.out.trans (HBW.out.1.trans hw), HK0.out.trans (HBW.out.2.trans hkt)⟩⟩
    rw [HE.out, HCk.out, HSt1.out, hr]
    rfl
  ·obtain rfl : i = np := by omega
   have HEn : Hid (R0 = bx (cks (lkL fs) F.body (ns1, k1)) fun _ => .ok ()) := by
    show _ = _
    rw [HE.out, HCk.out, List.drop_of_length_le (by have := HNp.out; omega)]
    rfl
   have z3 := z_ (i := 3) hbk rfl
   have HFx : Hid (FxS wr C fv mv fs) := HF0.out.below HB1.out
   have HRb1 : Hid (RowS (Lo C) wr 147 7 (.slice qb nb cb) nb bcs) := HRb.out.kept (zi HB1.out) (by decide)
   have HSt1 : Hid (StAt (Lo C) wr F.body bcs) := StAt.kept (zi HB1.out) _ _ HSt.out
   clear hlt hbk
   go_wp2_with (go_at_call 66; fail)
   refine (IB wr C fv mv nv1 fs ns1 k1 _ nb bcs HS1.out HFx.out HRb1.out HSt1.out).mono ?_
   rintro e w2 ⟨⟨ns2, k2, nv2, hr, rfl, hs2⟩ | ⟨k3, a3, hr, b1, rfl, hb1⟩, hw, hkt⟩
   ·have HEnd : Hid (G (.returned (.tuple #[])) w2) := HG0.out _ _ ⟨.inl ⟨(by
     unfold blkV at hr
     obtain ⟨s', h1, _⟩ := bx_ok hr
     rw [HEn.out, h1]
     rfl), rfl⟩, HB0.out.trans (HB1.out.trans hw), HK0.out.trans (HK1.out.trans hkt)⟩
    clear hr hs2 hw hkt z3
    go_wp2
    go_end0
    exact HEnd.out
   ·refine ⟨rfl, HG0.out _ _ ⟨.inr ⟨k3, a3, ?_, b1, rfl, hb1⟩, HB0.out.trans (HB1.out.trans hw), HK0.out.trans (HK1.out.trans hkt)⟩⟩
    rw [HEn.out]
    unfold blkV at hr
    cases hc : cks (lkL fs) F.body (ns1, k1) with
    | error x =>
     rw [hc] at hr
     injection hr with hr
     rw [hr]
     rfl
    | ok s' =>
     rw [hc] at hr
     cases hr
end Go.Proofs.YtnfhpdbbfejioaaGreatDoor
