/- CE -/
import Derived.Test.YtnfhpdbbfejioaaGreatDoorQ35
namespace Go.Proofs.YtnfhpdbbfejioaaGreatDoor
set_option linter.unusedVariables false
set_option linter.unusedSimpArgs false
set_option maxRecDepth 100000
set_option maxHeartbeats 4000000
open Go Go.RowKit
def ixF (nm : By) : List Fun → Option Nat
 | [] => none
 | F :: L => if F.nm = nm then some 0 else (ixF nm L).map (· + 1)
structure FxS (w : World) (C : Nat) (fv mv : Value) (fs : List Fun) : Prop where
 low : C ≤ w.heap.size
 par : ∀ w', Below C w w' → ∀ i F, fs[i]? = some F → ∃ g c vp, fv = .slice (some ⟨g, 0, none⟩) fs.length c ∧ w'.cell? ⟨g, i * 4 + 2, none⟩ = some vp ∧ w'.ownsRow 0 144 2 vp F.ps.length (psC F.ps) ∧ F.ps.length ≤ 1000000
 look : ∀ w', Below C w w' → ∀ nm : ByteArray, nm.size ≤ 1000000 → (Instr.lookup 92 mv (.string nm) true).run Tryz.prog w' = .ok (.tuple #[.int .i64 (((ixF nm.data.toList fs).getD 0 : Nat) : Int), .bool (ixF nm.data.toList fs).isSome]) w'
 few : fs.length ≤ 12
theorem FxS.below {w w' : World} {C : Nat} {fv mv : Value} {fs : List Fun} (h : FxS w C fv mv fs) (hb : Below C w w') : FxS w' C fv mv fs :=
 ⟨Nat.le_trans h.low hb.size, fun u hu => h.par u (hb.trans hu), fun u hu => h.look u (hb.trans hu), h.few⟩
abbrev Lo (C : Nat) : Nat → Prop := fun b => b < C
theorem zg {C : Nat} {w w' : World} (h : Below C w w') : Keeps (Lo C) w w' := fun b cs t hb _ hk => by rw [h.block b hb]; exact hk
def TyP (r : X Int) (w : World) (e : Ending) (w' : World) : Prop := ((∃ k, r = .ok k ∧ e = .returned (.int .i64 k)) ∨ (∃ k a, r = .error (k, a) ∧ ThrewI k a e w')) ∧ Below w.heap.size w w'
def MuP (r : X Unit) (w : World) (e : Ending) (w' : World) : Prop := ((r = .ok () ∧ e = .returned (.tuple #[])) ∨ (∃ k a, r = .error (k, a) ∧ ThrewI k a e w')) ∧ Below w.heap.size w w'
def TyC (t : Tr) : Prop := ∀ (w : World) (C : Nat) (fv mv nv : Value) (fs : List Fun) (ns : Nm) (k : Nat) (v : Value), CkS w C fv mv nv ns k → FxS w C fv mv fs → ExAt (Lo C) w t v → Calls Tryz.prog 156 #[.pointer (some ⟨C, 0, none⟩), v] w (TyP (ck (lkL fs) ns t []) w)
def MuC (t : Tr) : Prop := ∀ (w : World) (C : Nat) (fv mv nv : Value) (fs : List Fun) (ns : Nm) (k : Nat) (v : Value) (kd : Int), CkS w C fv mv nv ns k → FxS w C fv mv fs → ExAt (Lo C) w t v → Calls Tryz.prog 157 #[.pointer (some ⟨C, 0, none⟩), v, .int .i64 kd] w (MuP (mu (lkL fs) ns t kd) w)
theorem blk_at {C b : Nat} {w w' : World} {o : Obj} (h : w.heap[b]? = some o) (hb : Below w.heap.size w w') : w'.heap[b]? = some o := by
 rw [hb.block b (Array.getElem?_eq_some_iff.1 h).1]; exact h
theorem must_of {t : Tr} (hn : IsNd t) (h : TyC t) : MuC t := by
 intro w C fv mv nv fs ns k v kd hs hf hx
 obtain ⟨c, a, n, nm, op, l, r, g, rfl⟩ := hn
 have HT : Hid (Calls Tryz.prog 156 #[.pointer (some ⟨C, 0, none⟩), v] w (TyP (ck (lkL fs) ns (nd c a n nm op l r g) []) w)) := h w C fv mv nv fs ns k v hs hf hx
 obtain ⟨b, vl, vr, vg, ys, hb, rfl, hblk, _⟩ := zY hx
 have HBk : Hid (w.heap[b]? = some (.cells #[.int .i64 c, .int .i64 a, .int .i64 n, str nm, str op, vl, vr, vg] 252)) := hblk
 have HP : Hid (placeE (nd c a n nm op l r g) = a) := rfl
 have HG0 : Hid (∀ e w', MuP (mu (lkL fs) ns (nd c a n nm op l r g) kd) w e w' → MuP (mu (lkL fs) ns (nd c a n nm op l r g) kd) w e w') := fun _ _ h => h
 generalize hG : MuP (mu (lkL fs) ns (nd c a n nm op l r g) kd) w = G at *
 clear HG0
 have HG0 : Hid (∀ e w', MuP (mu (lkL fs) ns (nd c a n nm op l r g) kd) w e w' → G e w') := fun e w' h => by rw [← hG]; exact h
 generalize nd c a n nm op l r g = t at *
 clear h hs hf hx hblk hG
 go_enter Tryz.func157, Tryz.ntmps157
 go_wp2_with (go_at_call 156; fail)
 refine HT.out.mono ?_
 rintro e w1 ⟨⟨k1, hr, rfl⟩ | ⟨k1, a1, hr, b1, rfl, hb1⟩, hw⟩
 ·have HB1 : Hid (Below w.heap.size w w1) := hw
  have hblk1 := blk_at (C := C) HBk.out hw
  have c1 := z_ (i := 1) hblk1 rfl
  have HR : Hid (ck (lkL fs) ns t [] = .ok k1) := hr
  by_cases hk : k1 = kd
  ·subst hk
   clear hw hblk1 hr c1
   go_wp2
   go_end0
   refine HG0.out _ _ ⟨.inl ⟨?_, rfl⟩, HB1.out⟩
   unfold mu isT
   rw [HR.out]
   show (if k1 = k1 then _ else _) = _
   rw [if_pos rfl]
  ·have hk' : ((k1 : Int) == kd) = false := by simpa using hk
   clear hw hblk1 hr
   go_wp2_with (go_at_call 64; fail)
   refine (jl 1 a w1).mono ?_
   rintro e w2 ⟨⟨b2, rfl, hb2⟩, hw2⟩
   refine ⟨rfl, HG0.out _ _ ⟨.inr ⟨1, a, ?_, b2, rfl, hb2⟩, HB1.out.trans (hw2.mono HB1.out.size)⟩⟩
   unfold mu isT
   rw [HR.out, HP.out]
   show (if k1 = kd then _ else _) = _
   rw [if_neg hk]
 ·refine ⟨rfl, HG0.out _ _ ⟨.inr ⟨k1, a1, ?_, b1, rfl, hb1⟩, hw⟩⟩
  unfold mu
  rw [hr]
  rfl
end Go.Proofs.YtnfhpdbbfejioaaGreatDoor
