/- CI -/
import Derived.Test.YtnfhpdbbfejioaaGreatDoorQ39
namespace Go.Proofs.YtnfhpdbbfejioaaGreatDoor
set_option linter.unusedVariables false
set_option linter.unusedSimpArgs false
set_option maxRecDepth 100000
set_option maxHeartbeats 4000000
open Go Go.RowKit
theorem cks_e (lk : By → Option Nm) (x : X (Nm × Nat)) : (bx x fun s' => cks lk (.slice [] []) s') = x := by
 cases x with
 | error e => rfl
 | ok s => show cks lk ce s = _; rw [cks_ce]
theorem cks_1 (lk : By → Option Nm) (a : Int) (nm : By) (ix v th el : Tr) (s : Nm × Nat) : cks lk (cc (st 1 a nm ix v th el) ce) s = bx (ck lk s.1 v []) fun t => addV s (nm, t) a := by
 rw [cks, cks_e]
 simp
theorem cks_2 (lk : By → Option Nm) (a : Int) (nm : By) (ix v th el : Tr) (s : Nm × Nat) : cks lk (cc (st 2 a nm ix v th el) ce) s = (match ja s.1 nm with | none => .error (7, a) | some k => bx (mu lk s.1 v k) fun _ => .ok s) := by
 rw [cks, cks_e]
 simp
 cases ja s.1 nm <;> rfl
theorem cks_3 (lk : By → Option Nm) (a : Int) (nm : By) (ix v th el : Tr) (s : Nm × Nat) : cks lk (cc (st 3 a nm ix v th el) ce) s = (match ja s.1 nm with | none => .error (7, a) | some k => if k ≠ 2 then .error (1, a) else bx (mu lk s.1 ix 1) fun _ => bx (mu lk s.1 v 1) fun _ => .ok s) := by
 rw [cks, cks_e]
 simp
 cases ja s.1 nm <;> simp
theorem cks_d (lk : By → Option Nm) (c a : Int) (nm : By) (ix v th el : Tr) (s : Nm × Nat) (h1 : c ≠ 1) (h2 : c ≠ 2) (h3 : c ≠ 3) : cks lk (cc (st c a nm ix v th el) ce) s = bx (mu lk s.1 v 1) fun _ => bx (blkV lk th s) fun s1 => blkV lk el s1 := by
 rw [cks, cks_e]
 rw [if_neg h1, if_neg h2, if_neg h3]
 congr 1
 funext _
 unfold blkV
 rw [qB]
 rfl
theorem st_one {S : Nat → Prop} {w : World} {c a : Int} {nm : By} {ix v th el : Tr} {cs : Array Value} (h : StAt S w (cc (st c a nm ix v th el) ce) cs.toList) : ∃ (vi vv : Option Addr) (vt ve : Value) (nt ne : Nat) (ts es : List Value), cs = #[.int .i64 c, .int .i64 a, str nm, .pointer vi, .pointer vv, vt, ve] ∧ ExAt S w ix (.pointer vi) ∧ ExAt S w v (.pointer vv) ∧ RowS S w 147 7 vt nt ts ∧ StAt S w th ts ∧ RowS S w 147 7 ve ne es ∧ StAt S w el es := by
 obtain ⟨vi, vv, vt, ve, nt, ne, ts, es, rest, e, a1, a2, a3, a4, a5, a6, a7⟩ := st_open h
 have hr : rest = [] := by
  have : StAt S w (.slice [] []) rest := a7
  rw [StAt] at this
  exact this
 subst hr
 refine ⟨vi, vv, vt, ve, nt, ne, ts, es, ?_, a1, a2, a3, a4, a5, a6⟩
 have := congrArg List.toArray e
 rw [Array.toArray_toList] at this
 exact this
theorem st_rest {c a : Int} {nm : By} {ix v th el : Tr} (h4 : 4 ≤ c) (h8 : c ≤ 8) (IV : MuC v) (IT : BlC th) (IE : BlC el) : StC (st c a nm ix v th el) := by
 intro w C fv mv nv fs ns k cs hs hf hst
 obtain ⟨vi, vv, vt, ve, nt, ne, ts, es, rfl, hxi, hxv, hrt, hst1, hre, hse⟩ := st_one hst
 obtain ⟨y, hy, hyt⟩ := zt nm
 rw [hy]
 have HY : Hid (y.data.toList = nm) := hyt
 obtain ⟨s5, c5, rfl⟩ := ze hrt.1
 obtain ⟨s6, c6, rfl⟩ := ze hre.1
 obtain ⟨W0, hW0⟩ : ∃ W0, W0 = w.alloc (.cells #[.int .i64 c, .int .i64 a, .string y, .pointer vi, .pointer vv, .slice s5 nt c5, .slice s6 ne c6] 147) := ⟨_, rfl⟩
 have hb0 : Below w.heap.size w W0 := by rw [hW0]; exact (Below.refl _ _).alloc (Nat.le_refl _) _
 have hblk0 : W0.heap[w.heap.size]? = some (.cells #[.int .i64 c, .int .i64 a, .string y, .pointer vi, .pointer vv, .slice s5 nt c5, .slice s6 ne c6] 147) := by rw [hW0]; exact heap_alloc_last w _
 have hlo := hb0.mono (Nat.le_of_lt hs.lt)
 have HS0 : Hid (CkS W0 C fv mv nv ns k) := hs.below hb0
 have HF0 : Hid (FxS W0 C fv mv fs) := hf.below hlo
 have HXi : Hid (ExAt (Lo C) W0 ix (.pointer vi)) := (zg hlo).ex hxi
 have HXv : Hid (ExAt (Lo C) W0 v (.pointer vv)) := (zg hlo).ex hxv
 have HRt : Hid (RowS (Lo C) W0 147 7 (.slice s5 nt c5) nt ts) := hrt.kept (zg hlo) (by decide)
 have HSt : Hid (StAt (Lo C) W0 th ts) := StAt.kept (zg hlo) _ _ hst1
 have HRe : Hid (RowS (Lo C) W0 147 7 (.slice s6 ne c6) ne es) := hre.kept (zg hlo) (by decide)
 have HSe : Hid (StAt (Lo C) W0 el es) := StAt.kept (zg hlo) _ _ hse
 have HB0 : Hid (Below C w W0) := hlo
 have HK0 : Hid (Kt w W0) := zF hb0
 have HBk : Hid (W0.heap[w.heap.size]? = some (.cells #[.int .i64 c, .int .i64 a, .string y, .pointer vi, .pointer vv, .slice s5 nt c5, .slice s6 ne c6] 147)) := hblk0
 have HCl : Hid (C < w.heap.size) := hs.lt
 have z0 := z_ (i := 0) hblk0 rfl
 have z1 := z_ (i := 1) hblk0 rfl
 have z2 := z_ (i := 2) hblk0 rfl
 have z3 := z_ (i := 3) hblk0 rfl
 have z4 := z_ (i := 4) hblk0 rfl
 rw [hW0] at z0 z1 z2 z3 z4
 have n1 : ((c : Int) == 1) = false := by simp; omega
 have n2 : ((c : Int) == 2) = false := by simp; omega
 have n3 : ((c : Int) == 3) = false := by simp; omega
 have HE : Hid (cks (lkL fs) (cc (st c a nm ix v th el) ce) (ns, k) = bx (mu (lkL fs) ns v 1) fun _ => bx (blkV (lkL fs) th (ns, k)) fun s1 => blkV (lkL fs) el s1) := cks_d (lkL fs) c a nm ix v th el (ns, k) (by omega) (by omega) (by omega)
 have HG0 : Hid (∀ e w', CkP (cks (lkL fs) (cc (st c a nm ix v th el) ce) (ns, k)) C fv mv w e w' → CkP (cks (lkL fs) (cc (st c a nm ix v th el) ce) (ns, k)) C fv mv w e w') := fun _ _ h => h
 generalize hG : CkP (cks (lkL fs) (cc (st c a nm ix v th el) ce) (ns, k)) C fv mv w = G at *
 clear HG0
 have HG0 : Hid (∀ e w', CkP (cks (lkL fs) (cc (st c a nm ix v th el) ce) (ns, k)) C fv mv w e w' → G e w') := fun e w' h => by rw [← hG]; exact h
 generalize cks (lkL fs) (cc (st c a nm ix v th el) ce) (ns, k) = R0 at *
 clear hs hf hst hxi hxv hrt hst1 hre hse hy hyt hb0 hblk0 hlo hG
 go_enter Tryz.func103, Tryz.ntmps103
 go_wp2_with (go_at_call 157; fail)
 rw [← hW0]
 clear hW0 z0 z1 z2 z3 z4
 refine (IV W0 C fv mv nv fs ns k _ 1 HS0.out HF0.out HXv.out).mono ?_
 rintro e w1 ⟨⟨hr, rfl⟩ | ⟨k1, a1, hr, b1, rfl, hb1⟩, hw⟩
 rotate_left
 ·refine ⟨rfl, HG0.out _ _ ⟨.inr ⟨k1, a1, ?_, b1, rfl, hb1⟩, HB0.out.trans (hw.mono (Nat.le_of_lt HS0.out.lt)), HK0.out.trans (zF hw)⟩⟩
  rw [HE.out, hr]
  rfl
 have hlo := hw.mono (Nat.le_of_lt HS0.out.lt)
 have HR1 : Hid (mu (lkL fs) ns v 1 = .ok ()) := hr
 have HS1 : Hid (CkS w1 C fv mv nv ns k) := HS0.out.below hw
 have HF1 : Hid (FxS w1 C fv mv fs) := HF0.out.below hlo
 have HRt1 : Hid (RowS (Lo C) w1 147 7 (.slice s5 nt c5) nt ts) := HRt.out.kept (zg hlo) (by decide)
 have HSt1 : Hid (StAt (Lo C) w1 th ts) := StAt.kept (zg hlo) _ _ HSt.out
 have HRe1 : Hid (RowS (Lo C) w1 147 7 (.slice s6 ne c6) ne es) := HRe.out.kept (zg hlo) (by decide)
 have HSe1 : Hid (StAt (Lo C) w1 el es) := StAt.kept (zg hlo) _ _ HSe.out
 have HB1 : Hid (Below C w w1) := HB0.out.trans hlo
 have HK1 : Hid (Kt w w1) := HK0.out.trans (zF hw)
 have hbk1 := blk_at (C := C) HBk.out hw
 have z5 := z_ (i := 5) hbk1 rfl
 have HBk1 : Hid (w1.heap[w.heap.size]? = some (.cells #[.int .i64 c, .int .i64 a, .string y, .pointer vi, .pointer vv, .slice s5 nt c5, .slice s6 ne c6] 147)) := hbk1
 clear hlo hw hr hbk1
 go_wp2_with (go_at_call 66; fail)
 refine (IT w1 C fv mv nv fs ns k _ nt ts HS1.out HF1.out HRt1.out HSt1.out).mono ?_
 rintro e w2 ⟨⟨ns2, k2, nv2, hr, rfl, hs2⟩ | ⟨k1, a1, hr, b1, rfl, hb1⟩, hw, hkt⟩
 rotate_left
 ·refine ⟨rfl, HG0.out _ _ ⟨.inr ⟨k1, a1, ?_, b1, rfl, hb1⟩, HB1.out.trans hw, HK1.out.trans hkt⟩⟩
  rw [HE.out, HR1.out]
  show bx (blkV (lkL fs) th (ns, k)) _ = _
  rw [hr]
  rfl
 have HR2 : Hid (blkV (lkL fs) th (ns, k) = .ok (ns2, k2)) := hr
 have HS2 : Hid (CkS w2 C fv mv nv2 ns2 k2) := hs2
 have HF2 : Hid (FxS w2 C fv mv fs) := HF1.out.below hw
 have HRe2 : Hid (RowS (Lo C) w2 147 7 (.slice s6 ne c6) ne es) := HRe1.out.kept (zg hw) (by decide)
 have HSe2 : Hid (StAt (Lo C) w2 el es) := StAt.kept (zg hw) _ _ HSe1.out
 have HB2 : Hid (Below C w w2) := HB1.out.trans hw
 have HK2 : Hid (Kt w w2) := HK1.out.trans hkt
 have hbk2 := hkt _ _ 147 (by decide) (by decide) HBk1.out
 have z6 := z_ (i := 6) hbk2 rfl
 clear hr hs2 hw hkt hbk2 z5
 go_wp2_with (go_at_call 66; fail)
 refine (IE w2 C fv mv nv2 fs ns2 k2 _ ne es HS2.out HF2.out HRe2.out HSe2.out).mono ?_
 rintro e w3 ⟨⟨ns3, k3, nv3, hr, rfl, hs3⟩ | ⟨k1, a1, hr, b1, rfl, hb1⟩, hw, hkt⟩
 rotate_left
 ·refine ⟨rfl, HG0.out _ _ ⟨.inr ⟨k1, a1, ?_, b1, rfl, hb1⟩, HB2.out.trans hw, HK2.out.trans hkt⟩⟩
  rw [HE.out, HR1.out]
  show bx (blkV (lkL fs) th (ns, k)) _ = _
  rw [HR2.out]
  exact hr
 have HEnd : Hid (G (.returned (.tuple #[])) w3) := HG0.out _ _ ⟨.inl ⟨ns3, k3, nv3, by
  rw [HE.out, HR1.out]
  show bx (blkV (lkL fs) th (ns, k)) _ = _
  rw [HR2.out]
  exact hr, rfl, hs3⟩, HB2.out.trans hw, HK2.out.trans hkt⟩
 clear hr hs3 hw hkt z6
 go_wp2
 go_end0
 exact HEnd.out
theorem st_var {a : Int} {nm : By} {ix v th el : Tr} (IV : TyC v) : StC (st 1 a nm ix v th el) := by
 intro w C fv mv nv fs ns k cs hs hf hst
 obtain ⟨vi, vv, vt, ve, nt, ne, ts, es, rfl, hxi, hxv, hrt, hst1, hre, hse⟩ := st_one hst
 obtain ⟨y, hy, hyt⟩ := zt nm
 rw [hy]
 have HY : Hid (y.data.toList = nm) := hyt
 obtain ⟨s5, c5, rfl⟩ := ze hrt.1
 obtain ⟨s6, c6, rfl⟩ := ze hre.1
 obtain ⟨W0, hW0⟩ : ∃ W0, W0 = w.alloc (.cells #[.int .i64 1, .int .i64 a, .string y, .pointer vi, .pointer vv, .slice s5 nt c5, .slice s6 ne c6] 147) := ⟨_, rfl⟩
 have hb0 : Below w.heap.size w W0 := by rw [hW0]; exact (Below.refl _ _).alloc (Nat.le_refl _) _
 have hblk0 : W0.heap[w.heap.size]? = some (.cells #[.int .i64 1, .int .i64 a, .string y, .pointer vi, .pointer vv, .slice s5 nt c5, .slice s6 ne c6] 147) := by rw [hW0]; exact heap_alloc_last w _
 have hlo := hb0.mono (Nat.le_of_lt hs.lt)
 have HS0 : Hid (CkS W0 C fv mv nv ns k) := hs.below hb0
 have HF0 : Hid (FxS W0 C fv mv fs) := hf.below hlo
 have HXi : Hid (ExAt (Lo C) W0 ix (.pointer vi)) := (zg hlo).ex hxi
 have HXv : Hid (ExAt (Lo C) W0 v (.pointer vv)) := (zg hlo).ex hxv
 have HRt : Hid (RowS (Lo C) W0 147 7 (.slice s5 nt c5) nt ts) := hrt.kept (zg hlo) (by decide)
 have HSt : Hid (StAt (Lo C) W0 th ts) := StAt.kept (zg hlo) _ _ hst1
 have HRe : Hid (RowS (Lo C) W0 147 7 (.slice s6 ne c6) ne es) := hre.kept (zg hlo) (by decide)
 have HSe : Hid (StAt (Lo C) W0 el es) := StAt.kept (zg hlo) _ _ hse
 have HB0 : Hid (Below C w W0) := hlo
 have HK0 : Hid (Kt w W0) := zF hb0
 have HBk : Hid (W0.heap[w.heap.size]? = some (.cells #[.int .i64 1, .int .i64 a, .string y, .pointer vi, .pointer vv, .slice s5 nt c5, .slice s6 ne c6] 147)) := hblk0
 have HCl : Hid (C < w.heap.size) := hs.lt
 have z0 := z_ (i := 0) hblk0 rfl
 have z1 := z_ (i := 1) hblk0 rfl
 have z2 := z_ (i := 2) hblk0 rfl
 have z3 := z_ (i := 3) hblk0 rfl
 have z4 := z_ (i := 4) hblk0 rfl
 rw [hW0] at z0 z1 z2 z3 z4
 have HE : Hid (cks (lkL fs) (cc (st 1 a nm ix v th el) ce) (ns, k) = bx (ck (lkL fs) ns v []) fun t => addV (ns, k) (nm, t) a) := cks_1 (lkL fs) a nm ix v th el (ns, k)
 have HG0 : Hid (∀ e w', CkP (cks (lkL fs) (cc (st 1 a nm ix v th el) ce) (ns, k)) C fv mv w e w' → CkP (cks (lkL fs) (cc (st 1 a nm ix v th el) ce) (ns, k)) C fv mv w e w') := fun _ _ h => h
 generalize hG : CkP (cks (lkL fs) (cc (st 1 a nm ix v th el) ce) (ns, k)) C fv mv w = G at *
 clear HG0
 have HG0 : Hid (∀ e w', CkP (cks (lkL fs) (cc (st 1 a nm ix v th el) ce) (ns, k)) C fv mv w e w' → G e w') := fun e w' h => by rw [← hG]; exact h
 generalize cks (lkL fs) (cc (st 1 a nm ix v th el) ce) (ns, k) = R0 at *
 clear hs hf hst hxi hxv hrt hst1 hre hse hy hyt hb0 hblk0 hlo hG
 have HSd : Hid (CkS W0.drew C fv mv nv ns k) := HS0.out.below (Below.refl _ _).drew
 have HFd : Hid (FxS W0.drew C fv mv fs) := HF0.out.below (Below.refl _ _).drew
 have HXvd : Hid (ExAt (Lo C) W0.drew v (.pointer vv)) := (zg (Below.refl _ _).drew).ex HXv.out
 have HXid : Hid (ExAt (Lo C) W0.drew ix (.pointer vi)) := (zg (Below.refl _ _).drew).ex HXi.out
 have HBkd : Hid (W0.drew.heap[w.heap.size]? = some (.cells #[.int .i64 1, .int .i64 a, .string y, .pointer vi, .pointer vv, .slice s5 nt c5, .slice s6 ne c6] 147)) := HBk.out
 have HBd : Hid (∀ w', Below W0.drew.heap.size W0.drew w' → Below C w w' ∧ Kt w w') := fun w' h => by
  have h1 : Below W0.heap.size W0 w' := (Below.refl _ _).drew.trans h
  exact ⟨HB0.out.trans (h1.mono (Nat.le_of_lt HS0.out.lt)), HK0.out.trans (zF h1)⟩
 go_enter Tryz.func103, Tryz.ntmps103
 go_wp2_with fail
 rw [← hW0] at z0 z1 z2 z3 z4 ⊢
 clear hW0
 go_region_with (first
  |(go_at_call 156; refine (IV W0.drew C fv mv nv fs ns k _ HSd.out HFd.out HXvd.out).mono ?_; rintro e w1 ⟨⟨t, hr, rfl⟩ | ⟨k1, a1, hr, b1, rfl, hb1⟩, hw⟩; rotate_left; exact (by refine ⟨rfl, HG0.out _ _ ⟨.inr ⟨k1, a1, ?_, b1, rfl, hb1⟩, (HBd.out _ hw).1, (HBd.out _ hw).2⟩⟩; rw [HE.out, hr]; rfl); have HR1 : Hid (ck (lkL fs) ns v [] = .ok t) := hr; have HS1 : Hid (CkS w1 C fv mv nv ns k) := HSd.out.below hw; have HB1 : Hid (Below C w w1 ∧ Kt w w1) := HBd.out _ hw; have hbk1 := blk_at (C := C) HBkd.out hw; have y1 := z_ (i := 1) hbk1 rfl; have y2 := z_ (i := 2) hbk1 rfl; clear hr hw hbk1)
  |(go_at_call 65; refine (add_any HS1.out y t a).mono ?_; rintro e w2 ⟨⟨ns2, k2, nv2, hr, rfl, hs2⟩ | ⟨k1, a1, hr, b1, rfl, hb1⟩, hw, hkt⟩; rotate_left; exact (by refine ⟨rfl, HG0.out _ _ ⟨.inr ⟨k1, a1, ?_, b1, rfl, hb1⟩, HB1.out.1.trans hw, HB1.out.2.trans hkt⟩⟩; rw [HE.out, HR1.out]; show addV (ns, k) (nm, t) a = _; rw [← HY.out]; exact hr); have HEnd : Hid (G (.returned (.tuple #[])) w2) := HG0.out _ _ ⟨.inl ⟨ns2, k2, nv2, (by rw [HE.out, HR1.out]; show addV (ns, k) (nm, t) a = _; rw [← HY.out]; exact hr), rfl, hs2⟩, HB1.out.1.trans hw, HB1.out.2.trans hkt⟩; clear hr hs2 hw hkt))
 all_goals
  go_wp2
  go_end0
  exact HEnd.out
theorem st_set {a : Int} {nm : By} {ix v th el : Tr} (IV : MuC v) : StC (st 2 a nm ix v th el) := by
 intro w C fv mv nv fs ns k cs hs hf hst
 obtain ⟨vi, vv, vt, ve, nt, ne, ts, es, rfl, hxi, hxv, hrt, hst1, hre, hse⟩ := st_one hst
 obtain ⟨y, hy, hyt⟩ := zt nm
 rw [hy]
 have HY : Hid (y.data.toList = nm) := hyt
 obtain ⟨s5, c5, rfl⟩ := ze hrt.1
 obtain ⟨s6, c6, rfl⟩ := ze hre.1
 obtain ⟨W0, hW0⟩ : ∃ W0, W0 = w.alloc (.cells #[.int .i64 2, .int .i64 a, .string y, .pointer vi, .pointer vv, .slice s5 nt c5, .slice s6 ne c6] 147) := ⟨_, rfl⟩
 have hb0 : Below w.heap.size w W0 := by rw [hW0]; exact (Below.refl _ _).alloc (Nat.le_refl _) _
 have hblk0 : W0.heap[w.heap.size]? = some (.cells #[.int .i64 2, .int .i64 a, .string y, .pointer vi, .pointer vv, .slice s5 nt c5, .slice s6 ne c6] 147) := by rw [hW0]; exact heap_alloc_last w _
 have hlo := hb0.mono (Nat.le_of_lt hs.lt)
 have HS0 : Hid (CkS W0 C fv mv nv ns k) := hs.below hb0
 have HF0 : Hid (FxS W0 C fv mv fs) := hf.below hlo
 have HXi : Hid (ExAt (Lo C) W0 ix (.pointer vi)) := (zg hlo).ex hxi
 have HXv : Hid (ExAt (Lo C) W0 v (.pointer vv)) := (zg hlo).ex hxv
 have HRt : Hid (RowS (Lo C) W0 147 7 (.slice s5 nt c5) nt ts) := hrt.kept (zg hlo) (by decide)
 have HSt : Hid (StAt (Lo C) W0 th ts) := StAt.kept (zg hlo) _ _ hst1
 have HRe : Hid (RowS (Lo C) W0 147 7 (.slice s6 ne c6) ne es) := hre.kept (zg hlo) (by decide)
 have HSe : Hid (StAt (Lo C) W0 el es) := StAt.kept (zg hlo) _ _ hse
 have HB0 : Hid (Below C w W0) := hlo
 have HK0 : Hid (Kt w W0) := zF hb0
 have HBk : Hid (W0.heap[w.heap.size]? = some (.cells #[.int .i64 2, .int .i64 a, .string y, .pointer vi, .pointer vv, .slice s5 nt c5, .slice s6 ne c6] 147)) := hblk0
 have HCl : Hid (C < w.heap.size) := hs.lt
 have z0 := z_ (i := 0) hblk0 rfl
 have z1 := z_ (i := 1) hblk0 rfl
 have z2 := z_ (i := 2) hblk0 rfl
 have z3 := z_ (i := 3) hblk0 rfl
 have z4 := z_ (i := 4) hblk0 rfl
 rw [hW0] at z0 z1 z2 z3 z4
 have HE : Hid (cks (lkL fs) (cc (st 2 a nm ix v th el) ce) (ns, k) = (match ja ns nm with | none => .error (7, a) | some q => bx (mu (lkL fs) ns v q) fun _ => .ok (ns, k))) := cks_2 (lkL fs) a nm ix v th el (ns, k)
 have HG0 : Hid (∀ e w', CkP (cks (lkL fs) (cc (st 2 a nm ix v th el) ce) (ns, k)) C fv mv w e w' → CkP (cks (lkL fs) (cc (st 2 a nm ix v th el) ce) (ns, k)) C fv mv w e w') := fun _ _ h => h
 generalize hG : CkP (cks (lkL fs) (cc (st 2 a nm ix v th el) ce) (ns, k)) C fv mv w = G at *
 clear HG0
 have HG0 : Hid (∀ e w', CkP (cks (lkL fs) (cc (st 2 a nm ix v th el) ce) (ns, k)) C fv mv w e w' → G e w') := fun e w' h => by rw [← hG]; exact h
 generalize cks (lkL fs) (cc (st 2 a nm ix v th el) ce) (ns, k) = R0 at *
 clear hs hf hst hxi hxv hrt hst1 hre hse hy hyt hb0 hblk0 hlo hG
 have HSd : Hid (CkS W0.drew C fv mv nv ns k) := HS0.out.below (Below.refl _ _).drew
 have HFd : Hid (FxS W0.drew C fv mv fs) := HF0.out.below (Below.refl _ _).drew
 have HXvd : Hid (ExAt (Lo C) W0.drew v (.pointer vv)) := (zg (Below.refl _ _).drew).ex HXv.out
 have HXid : Hid (ExAt (Lo C) W0.drew ix (.pointer vi)) := (zg (Below.refl _ _).drew).ex HXi.out
 have HBkd : Hid (W0.drew.heap[w.heap.size]? = some (.cells #[.int .i64 2, .int .i64 a, .string y, .pointer vi, .pointer vv, .slice s5 nt c5, .slice s6 ne c6] 147)) := HBk.out
 have HBd : Hid (∀ w', Below W0.drew.heap.size W0.drew w' → Below C w w' ∧ Kt w w') := fun w' h => by
  have h1 : Below W0.heap.size W0 w' := (Below.refl _ _).drew.trans h
  exact ⟨HB0.out.trans (h1.mono (Nat.le_of_lt HS0.out.lt)), HK0.out.trans (zF h1)⟩
 go_enter Tryz.func103, Tryz.ntmps103
 go_wp2_with fail
 rw [← hW0] at z0 z1 z2 z3 z4 ⊢
 clear hW0
 go_region_with (first
  |(go_at_call 158; refine (variable_any HSd.out y a).mono ?_; rintro e w1 ⟨⟨t, hr, rfl⟩ | ⟨hr, b1, rfl, hb1⟩, hw⟩; rotate_left; exact (by refine ⟨rfl, HG0.out _ _ ⟨.inr ⟨7, a, ?_, b1, rfl, hb1⟩, (HBd.out _ hw).1, (HBd.out _ hw).2⟩⟩; rw [HE.out, ← HY.out, hr]); have HR1 : Hid (ja ns y.data.toList = some t) := hr; have HS1 : Hid (CkS w1 C fv mv nv ns k) := HSd.out.below hw; have HF1 : Hid (FxS w1 C fv mv fs) := HFd.out.below (hw.mono (Nat.le_of_lt HSd.out.lt)); have HX1 : Hid (ExAt (Lo C) w1 v (.pointer vv)) := (zg (hw.mono (Nat.le_of_lt HSd.out.lt))).ex HXvd.out; have HB1 : Hid (Below C w w1 ∧ Kt w w1) := HBd.out _ hw; have hbk1 := blk_at (C := C) HBkd.out hw; have y4 := z_ (i := 4) hbk1 rfl; clear hr hw hbk1)
  |(go_at_call 157; refine (IV w1 C fv mv nv fs ns k _ t HS1.out HF1.out HX1.out).mono ?_; rintro e w2 ⟨⟨hr, rfl⟩ | ⟨k1, a1, hr, b1, rfl, hb1⟩, hw⟩; rotate_left; exact (by refine ⟨rfl, HG0.out _ _ ⟨.inr ⟨k1, a1, ?_, b1, rfl, hb1⟩, HB1.out.1.trans (hw.mono (Nat.le_of_lt HS1.out.lt)), HB1.out.2.trans (zF hw)⟩⟩; rw [HE.out, ← HY.out, HR1.out]; show bx (mu (lkL fs) ns v t) _ = _; rw [hr]; rfl); have HEnd : Hid (G (.returned (.tuple #[])) w2) := HG0.out _ _ ⟨.inl ⟨ns, k, nv, (by rw [HE.out, ← HY.out, HR1.out]; show bx (mu (lkL fs) ns v t) _ = _; rw [hr]; rfl), rfl, HS1.out.below hw⟩, HB1.out.1.trans (hw.mono (Nat.le_of_lt HS1.out.lt)), HB1.out.2.trans (zF hw)⟩; clear hr hw))
 all_goals
  go_wp2
  go_end0
  exact HEnd.out
end Go.Proofs.YtnfhpdbbfejioaaGreatDoor
