/- CD CE CF -/
import Derived.Test.YtnfhpdbbfejioaaGreatDoorE17
namespace Go.Proofs.YtnfhpdbbfejioaaGreatDoor
set_option linter.unusedVariables false
set_option linter.unusedSimpArgs false
set_option maxRecDepth 100000
set_option maxHeartbeats 16000000
open Go Go.RowKit
def Kt (w w' : World) : Prop := ∀ (b : Nat) (cs : Array Value) (t : TypeId), t ≠ 96 → t ≠ 144 → w.heap[b]? = some (.cells cs t) → w'.heap[b]? = some (.cells cs t)
theorem Kt.trans {a b c : World} (h : Kt a b) (g : Kt b c) : Kt a c := fun k cs t h1 h2 hk => g k cs t h1 h2 (h k cs t h1 h2 hk)
theorem zA {w w' : World} (h : Below w.heap.size w w') : Kt w w' := fun b cs t _ _ hb => by rw [h.block b (Array.getElem?_eq_some_iff.1 hb).1]; exact hb
theorem kt_set {w : World} {C i : Nat} {cs : Array Value} {v : Value} (h : w.heap[C]? = some (.cells cs 96)) : Kt w (w.setCell ⟨C, i, none⟩ v) := fun b ds t h1 _ hb => by
 rw [heap_setCell_other _ _ _ _ (by
  show b ≠ C
  intro e
  rw [e, h] at hb
  injection hb with hb
  injection hb with _ h2
  exact h1 h2.symm)]
 exact hb
theorem kt_grown {w w' : World} {v : Value} {B n : Nat} {xs : List Value} (h : w.grownBy w' v.ownBlock) (hr : w.ownsRow B 144 2 v n xs) : Kt w w' := fun b ds t _ h2 hb => by
 rw [h.block b (Array.getElem?_eq_some_iff.1 hb).1 (fun e => by
  rcases hr.2 with ⟨e1, _⟩ | ⟨g, cap, cur, e1, _, e3, _⟩
  ·rw [e1] at e; cases e
  ·rw [e1] at e
   injection e with e
   have e' : b = g := e
   rw [e', e3] at hb
   injection hb with hb
   injection hb with _ h4
   exact h2 h4.symm)]
 exact hb
def CkP (r : X (Nm × Nat)) (C : Nat) (fv mv : Value) (w : World) (e : Ending) (w' : World) : Prop :=
 ((∃ ns k nv, r = .ok (ns, k) ∧ e = .returned (.tuple #[]) ∧ CkS w' C fv mv nv ns k) ∨ (∃ k a, r = .error (k, a) ∧ ThrewI k a e w')) ∧ Below C w w' ∧ Kt w w'
theorem add_any {w : World} {C : Nat} {fv mv nv : Value} {ns : Nm} {k : Nat} (h : CkS w C fv mv nv ns k) (nm : ByteArray) (ty a : Int) :
  Calls Tryz.prog 65 #[.pointer (some ⟨C, 0, none⟩), .agg #[.string nm, .int .i64 ty], .int .i64 a] w (CkP (addV (ns, k) (nm.data.toList, ty) a) C fv mv w) := by
 obtain ⟨W0, hW0⟩ : ∃ W0, W0 = w.alloc (.cells #[.string nm, .int .i64 ty] 144) := ⟨_, rfl⟩
 have hb0 : Below w.heap.size w W0 := by rw [hW0]; exact (Below.refl _ _).alloc (Nat.le_refl _) _
 have hp0 : W0.heap[w.heap.size]? = some (.cells #[.string nm, .int .i64 ty] 144) := by rw [hW0]; exact heap_alloc_last w _
 have h0 := h.below hb0
 have HF : Hid (Calls Tryz.prog 102 #[.pointer (some ⟨C, 0, none⟩), .string nm] W0 fun e w' => e = .returned (.int .i64 (ixI ns nm.data.toList)) ∧ Below W0.heap.size W0 w') := find_any h0 nm
 have HS0 : Hid (CkS W0 C fv mv nv ns k) := h0
 have HP0 : Hid (W0.heap[w.heap.size]? = some (.cells #[.string nm, .int .i64 ty] 144)) := hp0
 have HB0 : Hid (Below w.heap.size w W0) := hb0
 have HCl : Hid (C < w.heap.size) := h.lt
 have HG0 : Hid (∀ e w', CkP (addV (ns, k) (nm.data.toList, ty) a) C fv mv w e w' → CkP (addV (ns, k) (nm.data.toList, ty) a) C fv mv w e w') := fun _ _ h => h
 generalize hG : CkP (addV (ns, k) (nm.data.toList, ty) a) C fv mv w = G at *
 clear HG0
 have HG0 : Hid (∀ e w', CkP (addV (ns, k) (nm.data.toList, ty) a) C fv mv w e w' → G e w') := fun e w' h => by rw [← hG]; exact h
 have hk12 := h.k12
 have c0 : (w.alloc (.cells #[.string nm, .int .i64 ty] 144)).cell? ⟨w.heap.size, 0, none⟩ = some (.string nm) := z_ (i := 0) (heap_alloc_last w _) rfl
 clear hb0 hp0 h0 h hG
 rcases fnd_le (ns := ns) (nm := nm.data.toList) with ⟨i, x, e1, e2, e3, e4⟩ | ⟨e1, e2⟩
 ·rw [e1] at HF
  have HR : Hid (addV (ns, k) (nm.data.toList, ty) a = .error (9, a)) := by
   show _ = _
   unfold addV
   rw [if_pos (by rw [show fndN (ns, k).1 (nm.data.toList, ty).1 = fndN ns nm.data.toList from rfl, e4]; rfl)]
  clear e1 e2 e3 e4
  go_enter Tryz.func65, Tryz.ntmps65
  go_wp2_with (go_at_call 102; fail)
  rw [← hW0]
  clear hW0 c0
  refine HF.out.mono ?_
  rintro e w1 ⟨rfl, hb⟩
  have HB1 : Hid (Below w.heap.size w w1) := HB0.out.trans (hb.mono HB0.out.size)
  clear hb
  go_wp2_with (go_at_call 64; fail)
  refine (qV 9 a w1).mono ?_
  rintro e w2 ⟨⟨b, rfl, hb2⟩, hb⟩
  exact ⟨rfl, HG0.out _ _ ⟨.inr ⟨9, a, HR.out, b, rfl, hb2⟩, (HB1.out.trans (hb.mono HB1.out.size)).mono (Nat.le_of_lt HCl.out), zA (HB1.out.trans (hb.mono HB1.out.size))⟩⟩
 ·rw [e1] at HF
  by_cases h12 : k = 12
  ·have HR : Hid (addV (ns, k) (nm.data.toList, ty) a = .error (12, a)) := by
    show _ = _
    unfold addV
    rw [if_neg (by rw [show fndN (ns, k).1 (nm.data.toList, ty).1 = fndN ns nm.data.toList from rfl, e2]; simp), if_pos h12]
   subst h12
   clear e1 e2
   go_enter Tryz.func65, Tryz.ntmps65
   go_wp2_with (go_at_call 102; fail)
   rw [← hW0]
   clear hW0 c0
   refine HF.out.mono ?_
   rintro e w1 ⟨rfl, hb⟩
   have HB1 : Hid (Below w.heap.size w w1) := HB0.out.trans (hb.mono HB0.out.size)
   have c3 := z_ (i := 3) (HS0.out.below hb).blk rfl
   clear hb
   go_wp2_with (go_at_call 64; fail)
   refine (qV 12 a w1).mono ?_
   rintro e w2 ⟨⟨b, rfl, hb2⟩, hb⟩
   exact ⟨rfl, HG0.out _ _ ⟨.inr ⟨12, a, HR.out, b, rfl, hb2⟩, (HB1.out.trans (hb.mono HB1.out.size)).mono (Nat.le_of_lt HCl.out), zA (HB1.out.trans (hb.mono HB1.out.size))⟩⟩
  ·have HR : Hid (addV (ns, k) (nm.data.toList, ty) a = .ok (ns ++ [(nm.data.toList, ty)], k + 1)) := by
    show _ = _
    unfold addV
    rw [if_neg (by rw [show fndN (ns, k).1 (nm.data.toList, ty).1 = fndN ns nm.data.toList from rfl, e2]; simp), if_neg h12]
   have h12' : ((k : Int) == 12) = false := by simp; omega
   clear e1 e2
   obtain ⟨i0, hi0, hz0, hs0, hbb0⟩ := info_parts info83
   go_enter Tryz.func65, Tryz.ntmps65
   go_wp2_with (go_at_call 102; fail)
   rw [← hW0]
   clear hW0 c0
   refine HF.out.mono ?_
   rintro e w1 ⟨rfl, hb⟩
   have HB1 : Hid (Below w.heap.size w w1) := HB0.out.trans (hb.mono HB0.out.size)
   have hS1 := HS0.out.below hb
   obtain ⟨q, cq, rfl⟩ := zd hS1.row
   have hp1 : w1.heap[w.heap.size]? = some (.cells #[.string nm, .int .i64 ty] 144) := by rw [hb.block _ (Array.getElem?_eq_some_iff.1 HP0.out).1]; exact HP0.out
   have c2 := z_ (i := 2) hS1.blk rfl
   have c3 := z_ (i := 3) hS1.blk rfl
   have p0 := z_ (i := 0) hp1 rfl
   have p1 := z_ (i := 1) hp1 rfl
   have f3 := zb hS1.blk 3
   have HS1 : Hid (CkS w1 C fv mv (.slice q ns.length cq) ns k) := hS1
   have HP1 : Hid (w1.heap[w.heap.size]? = some (.cells #[.string nm, .int .i64 ty] 144)) := hp1
   clear hb hS1 hp1
   go_wp2_with fail
   obtain ⟨W2, hW2⟩ : ∃ W2, W2 = w1.setCell ⟨C, 3, none⟩ (.int .i64 ((k : Int) + 1)) := ⟨_, rfl⟩
   have hblk2 : W2.heap[C]? = some (.cells #[fv, mv, .slice q ns.length cq, .int .i64 ((k : Int) + 1)] 96) := by rw [hW2]; exact heap_setCell_same _ _ _ _ _ _ HS1.out.blk
   have hp2 : W2.heap[w.heap.size]? = some (.cells #[.string nm, .int .i64 ty] 144) := by
    rw [hW2, heap_setCell_other _ _ _ _ (by show w.heap.size ≠ C; have := HCl.out; omega)]
    exact HP1.out
   have hrow2 : W2.ownsRow (C + 1) 144 2 (.slice q ns.length cq) ns.length (psC ns) := by rw [hW2]; exact ownsRow_setCell_below HS1.out.row (by show C < C + 1; omega) _
   have hb2 : Below C w W2 := by rw [hW2]; exact (HB1.out.mono (Nat.le_of_lt HCl.out)).setCell (p := ⟨C, 3, none⟩) (Nat.le_refl _) _
   have hCl2 : C < W2.heap.size := (Array.getElem?_eq_some_iff.1 hblk2).1
   have hk2 : Kt w W2 := by rw [hW2]; exact (zA HB1.out).trans (kt_set HS1.out.blk)
   have HK2 : Hid (Kt w W2) := hk2
   rw [← hW2]
   have c2' := z_ (i := 2) hblk2 rfl
   have ca2 : (W2.alloc (.cells #[.string nm, .int .i64 ty] 144)).cell? ⟨C, 2, none⟩ = some (.slice q ns.length cq) := z_ (i := 2) (qJ hblk2 _) rfl
   have p0' := z_ (i := 0) hp2 rfl
   have p1' := z_ (i := 1) hp2 rfl
   have HO4 : Hid (((W2.alloc (.cells #[.string nm, .int .i64 ty] 144)).drew).ownsRow (C + 1) 144 2 (.slice q ns.length cq) ns.length (psC ns)) := (hrow2.alloc _).drew
   have HN4 : Hid (∀ (i : Nat) (x : Value), ([.string nm, .int .i64 ty] : List Value)[i]? = some x → ((W2.alloc (.cells #[.string nm, .int .i64 ty] 144)).drew).cell? ((⟨W2.heap.size, 0, none⟩ : Addr).add i) = some x) := World.news_of_block (cs := #[.string nm, .int .i64 ty]) (t := 144) (fr := (0, 0)) (heap_alloc_last W2 _)
   have H14 : Hid (∀ u ∈ ([.string nm, .int .i64 ty] : List Value), u.oneCell' = true) := fun u hu => by simp at hu; rcases hu with rfl | rfl <;> rfl
   have HZ4 : Hid (C + 1 ≤ ((W2.alloc (.cells #[.string nm, .int .i64 ty] 144)).drew).heap.size) := by show _ ≤ _; simp; omega
   have HBk : Hid (∀ i, (Value.slice q ns.length cq).ownBlock = some i → C + 1 ≤ i ∧ i < W2.heap.size) := fun i hi => hrow2.lt i hi
   have HBl2 : Hid (W2.heap[C]? = some (.cells #[fv, mv, .slice q ns.length cq, .int .i64 ((k : Int) + 1)] 96)) := hblk2
   have HB2 : Hid (Below C w W2) := hb2
   have HC2 : Hid (C < W2.heap.size) := hCl2
   have hn12 : ns.length ≤ 12 := by have := HS1.out.le; omega
   have HNk : Hid (ns.length ≤ k) := HS1.out.le
   have HPs : Hid (psC (ns ++ [(nm.data.toList, ty)]) = psC ns ++ [.string nm, .int .i64 ty]) := by
    show _ = _
    have e : str nm.data.toList = .string nm := by
     show Value.string ⟨nm.data.toList.toArray⟩ = .string nm
     simp
    simp [psC, e]
   obtain ⟨n, hn⟩ : ∃ n, n = ns.length := ⟨_, rfl⟩
   have HNn : Hid (n = ns.length) := hn
   rw [← hn] at c2' ca2 HO4 HBk HBl2 hn12 HNk
   clear hk2 hW2 hblk2 hp2 hrow2 hb2 hCl2 c2 c3 p0 p1 f3 HS1 HP1 HB1 hn HS0 HP0 HB0 HF
   go_region_law (refine step_append_lies _ rfl (.tmp 31) (.tmp 33) 65 rfl (C + 1) 144 i0 _ 2 24 Tryz.underlying65 hi0 hz0 hs0 hbb0 rfl (by decide) (.slice q n cq) n (psC ns) (by simp [Act.eval]) HO4.out ⟨W2.heap.size, 0, none⟩ 1 1 [.string nm, .int .i64 ty] (by simp [Act.eval]) rfl HN4.out H14.out (by decide) (by unfold maxLen; omega) (by omega) HZ4.out (W2.heap.size + 1) (by simp) ?_; intro g5 cap5 w5 hown5 hgrow5 hg5 hlt5; have hCb : w5.heap[C]? = some (.cells #[fv, mv, .slice q n cq, .int .i64 ((k : Int) + 1)] 96) := (by rw [hgrow5.block C (by simp; have := HC2.out; omega) (fun e => by have := (HBk.out C e.symm).1; omega)]; exact qJ HBl2.out _); have HCb : Hid (w5.heap[C]? = some (.cells #[fv, mv, .slice q n cq, .int .i64 ((k : Int) + 1)] 96)) := hCb; have HO5 : Hid (w5.ownsRow (C + 1) 144 2 (.slice (some ⟨g5, 0, none⟩) (n + 1) cap5) (n + 1) (psC ns ++ [.string nm, .int .i64 ty])) := hown5; have HB5 : Hid (Below C w w5) := ((HB2.out.alloc (by have := HC2.out; omega) _).drew.grown hgrow5 (by simp; have := HC2.out; omega) (fun i e => by have := (HBk.out i e).1; omega)); have HK5 : Hid (Kt w w5) := (HK2.out.trans (zA (by exact ((Below.refl _ _).alloc (Nat.le_refl _) _).drew))).trans (kt_grown hgrow5 HO4.out); have f5 := zb hCb 2; have cc5 := z_ (i := 2) hCb rfl; clear hown5 hgrow5 hg5 hlt5 hCb)
   all_goals
    go_wp2
    go_end0
    refine HG0.out _ _ ⟨.inl ⟨ns ++ [(nm.data.toList, ty)], k + 1, .slice (some ⟨g5, 0, none⟩) (n + 1) cap5, HR.out, rfl, ?_, ?_, ?_, ?_⟩, ?_, ?_⟩
    ·rw [show ((k + 1 : Nat) : Int) = (k : Int) + 1 by omega]
     exact heap_setCell_same _ _ _ _ _ _ HCb.out
    ·have e : (ns ++ [(nm.data.toList, ty)]).length = n + 1 := by rw [HNn.out]; simp
     rw [e, HPs.out]
     exact ownsRow_setCell_below HO5.out (by show C < C + 1; omega) _
    ·have := HNk.out; have := HNn.out; simp; omega
    ·omega
    ·exact HB5.out.setCell (p := ⟨C, 2, none⟩) (Nat.le_refl _) _
    ·exact HK5.out.trans (kt_set HCb.out)
def ixF (nm : By) : List Fun → Option Nat
 | [] => none
 | F :: L => if F.nm = nm then some 0 else (ixF nm L).map (· + 1)
structure FxS (w : World) (C : Nat) (fv mv : Value) (fs : List Fun) : Prop where
 low : C ≤ w.heap.size
 par : ∀ w', Below C w w' → ∀ i F, fs[i]? = some F → ∃ g c vp, fv = .slice (some ⟨g, 0, none⟩) fs.length c ∧ w'.cell? ⟨g, i * 4 + 2, none⟩ = some vp ∧ w'.ownsRow 0 144 2 vp F.ps.length (psC F.ps) ∧ F.ps.length ≤ 1000000
 look : ∀ w', Below C w w' → ∀ nm : ByteArray, nm.size ≤ 1000000 → (Instr.lookup 92 mv (.string nm) true).run Tryz.prog w' = .ok (.tuple #[.int .i64 (((ixF nm.data.toList fs).getD 0 : Nat) : Int), .bool (ixF nm.data.toList fs).isSome]) w'
 few : fs.length ≤ 12
theorem FxS.below {w w' : World} {C : Nat} {fv mv : Value} {fs : List Fun} (h : FxS w C fv mv fs) (hb : Below C w w') : FxS w' C fv mv fs :=
 ⟨Nat.le_trans h.low hb.size, fun u hu => h.par u (hb.trans hu), fun u hu => h.look u (hb.trans hu), h.few⟩
abbrev Lo (C : Nat) : Nat → Prop := fun b => b < C
theorem zi {C : Nat} {w w' : World} (h : Below C w w') : Keeps (Lo C) w w' := fun b cs t hb _ hk => by rw [h.block b hb]; exact hk
def TyP (r : X Int) (w : World) (e : Ending) (w' : World) : Prop := ((∃ k, r = .ok k ∧ e = .returned (.int .i64 k)) ∨ (∃ k a, r = .error (k, a) ∧ ThrewI k a e w')) ∧ Below w.heap.size w w'
def MuP (r : X Unit) (w : World) (e : Ending) (w' : World) : Prop := ((r = .ok () ∧ e = .returned (.tuple #[])) ∨ (∃ k a, r = .error (k, a) ∧ ThrewI k a e w')) ∧ Below w.heap.size w w'
def TyC (t : Tr) : Prop := ∀ (w : World) (C : Nat) (fv mv nv : Value) (fs : List Fun) (ns : Nm) (k : Nat) (v : Value), CkS w C fv mv nv ns k → FxS w C fv mv fs → ExAt (Lo C) w t v → Calls Tryz.prog 156 #[.pointer (some ⟨C, 0, none⟩), v] w (TyP (ck (lkL fs) ns t []) w)
def MuC (t : Tr) : Prop := ∀ (w : World) (C : Nat) (fv mv nv : Value) (fs : List Fun) (ns : Nm) (k : Nat) (v : Value) (kd : Int), CkS w C fv mv nv ns k → FxS w C fv mv fs → ExAt (Lo C) w t v → Calls Tryz.prog 157 #[.pointer (some ⟨C, 0, none⟩), v, .int .i64 kd] w (MuP (mu (lkL fs) ns t kd) w)
theorem blk_at {C b : Nat} {w w' : World} {o : Obj} (h : w.heap[b]? = some o) (hb : Below w.heap.size w w') : w'.heap[b]? = some o := by
 rw [hb.block b (Array.getElem?_eq_some_iff.1 h).1]; exact h
theorem must_of {t : Tr} (hn : IsNd t) (h : TyC t) : MuC t := by
 intro w C fv mv nv fs ns k v kd hs hf hx
 obtain ⟨c, a, n, nm, op, l, r, g, rfl⟩ := hn
 have HT : Hid (Calls Tryz.prog 156 #[.pointer (some ⟨C, 0, none⟩), v] w (TyP (ck (lkL fs) ns (nd c a n nm op l r g) []) w)) := h w C fv mv nv fs ns k v hs hf hx
 obtain ⟨b, vl, vr, vg, ys, hb, rfl, hblk, _⟩ := nd_open hx
 have HBk : Hid (w.heap[b]? = some (.cells #[.int .i64 c, .int .i64 a, .int .i64 n, str nm, str op, vl, vr, vg] 252)) := hblk
 have HP : Hid (placeE (nd c a n nm op l r g) = a) := rfl
 have HG0 : Hid (∀ e w', MuP (mu (lkL fs) ns (nd c a n nm op l r g) kd) w e w' → MuP (mu (lkL fs) ns (nd c a n nm op l r g) kd) w e w') := fun _ _ h => h
 generalize hG : MuP (mu (lkL fs) ns (nd c a n nm op l r g) kd) w = G at *
 clear HG0
 have HG0 : Hid (∀ e w', MuP (mu (lkL fs) ns (nd c a n nm op l r g) kd) w e w' → G e w') := fun e w' h => by rw [← hG]; exact h
 generalize nd c a n nm op l r g = t at *
 clear h hs hf hx hblk hG
 go_enter Tryz.func157, Tryz.ntmps157
 go_wp2_with (go_at_call 156; fail)
 refine HT.out.mono ?_
 rintro e w1 ⟨⟨k1, hr, rfl⟩ | ⟨k1, a1, hr, b1, rfl, hb1⟩, hw⟩
 ·have HB1 : Hid (Below w.heap.size w w1) := hw
  have hblk1 := blk_at (C := C) HBk.out hw
  have c1 := z_ (i := 1) hblk1 rfl
  have HR : Hid (ck (lkL fs) ns t [] = .ok k1) := hr
  by_cases hk : k1 = kd
  ·subst hk
   clear hw hblk1 hr c1
   go_wp2
   go_end0
   refine HG0.out _ _ ⟨.inl ⟨?_, rfl⟩, HB1.out⟩
   unfold mu isT
   rw [HR.out]
   show (if k1 = k1 then _ else _) = _
   rw [if_pos rfl]
  ·have hk' : ((k1 : Int) == kd) = false := by simpa using hk
   clear hw hblk1 hr
   go_wp2_with (go_at_call 64; fail)
   refine (qV 1 a w1).mono ?_
   rintro e w2 ⟨⟨b2, rfl, hb2⟩, hw2⟩
   refine ⟨rfl, HG0.out _ _ ⟨.inr ⟨1, a, ?_, b2, rfl, hb2⟩, HB1.out.trans (hw2.mono HB1.out.size)⟩⟩
   unfold mu isT
   rw [HR.out, HP.out]
   show (if k1 = kd then _ else _) = _
   rw [if_neg hk]
 ·refine ⟨rfl, HG0.out _ _ ⟨.inr ⟨k1, a1, ?_, b1, rfl, hb1⟩, hw⟩⟩
  unfold mu
  rw [hr]
  rfl
theorem qw {α β γ : Type} (x : X α) (f : α → X β) (g : β → X γ) : bx (bx x f) g = bx x fun a => bx (f a) g := by cases x <;> rfl
theorem ck_1 (lk : By → Option Nm) (ns : Nm) (a n : Int) (nm op : By) (l r g : Tr) : ck lk ns (nd 1 a n nm op l r g) [] = .ok 1 := by
 rw [ck]
 simp [mu, qw]
theorem ck_9 (lk : By → Option Nm) (ns : Nm) (a n : Int) (nm op : By) (l r g : Tr) : ck lk ns (nd 9 a n nm op l r g) [] = .ok 1 := by
 rw [ck]
 simp [mu, qw]
theorem ck_3 (lk : By → Option Nm) (ns : Nm) (a n : Int) (nm op : By) (l r g : Tr) : ck lk ns (nd 3 a n nm op l r g) [] = bx (mu lk ns l 1) fun _ => bx (mu lk ns r 1) fun _ => .ok 1 := by
 rw [ck]
 simp [mu, qw]
theorem ck_4 (lk : By → Option Nm) (ns : Nm) (a n : Int) (nm op : By) (l r g : Tr) : ck lk ns (nd 4 a n nm op l r g) [] = bx (mu lk ns l 1) fun _ => .ok 1 := by
 rw [ck]
 simp [mu, qw]
theorem ck_6 (lk : By → Option Nm) (ns : Nm) (a n : Int) (nm op : By) (l r g : Tr) : ck lk ns (nd 6 a n nm op l r g) [] = bx (mu lk ns l 1) fun _ => .ok 2 := by
 rw [ck]
 simp [mu, qw]
theorem ck_7 (lk : By → Option Nm) (ns : Nm) (a n : Int) (nm op : By) (l r g : Tr) : ck lk ns (nd 7 a n nm op l r g) [] = bx (mu lk ns l 2) fun _ => .ok 1 := by
 rw [ck]
 simp [mu, qw]
theorem ck_8 (lk : By → Option Nm) (ns : Nm) (a n : Int) (nm op : By) (l r g : Tr) : ck lk ns (nd 8 a n nm op l r g) [] = bx (mu lk ns l 2) fun _ => bx (mu lk ns r 1) fun _ => .ok 1 := by
 rw [ck]
 simp [mu, qw]
theorem ck_2 (lk : By → Option Nm) (ns : Nm) (a n : Int) (nm op : By) (l r g : Tr) : ck lk ns (nd 2 a n nm op l r g) [] = (match fndN ns nm with | some k => .ok k | none => .error (7, a)) := by
 rw [ck]
 simp
 cases fndN ns nm <;> rfl
theorem ty_num {a n : Int} {nm op : By} {l r g : Tr} : TyC (nd 1 a n nm op l r g) := by
 intro w C fv mv nv fs ns k v hs hf hx
 obtain ⟨b, vl, vr, vg, ys, hb, rfl, hblk, hxl, hxr, hrow, hro, hxg⟩ := nd_open hx
 have c0 := z_ (i := 0) hblk rfl
 have HBk : Hid (w.heap[b]? = some (.cells #[.int .i64 1, .int .i64 a, .int .i64 n, str nm, str op, vl, vr, vg] 252)) := hblk
 have HS : Hid (CkS w C fv mv nv ns k) := hs
 have HF : Hid (FxS w C fv mv fs) := hf
 have HXl : Hid (ExAt (Lo C) w l vl) := hxl
 have HXr : Hid (ExAt (Lo C) w r vr) := hxr
 have HG0 : Hid (∀ e w', TyP (ck (lkL fs) ns (nd 1 a n nm op l r g) []) w e w' → TyP (ck (lkL fs) ns (nd 1 a n nm op l r g) []) w e w') := fun _ _ h => h
 generalize hG : TyP (ck (lkL fs) ns (nd 1 a n nm op l r g) []) w = G at *
 clear HG0
 have HG0 : Hid (∀ e w', TyP (ck (lkL fs) ns (nd 1 a n nm op l r g) []) w e w' → G e w') := fun e w' h => by rw [← hG]; exact h
 clear hs hf hx hblk hxl hxr hrow hro hxg hG
 go_enter Tryz.func156, Tryz.ntmps156
 go_wp2
 exact HG0.out _ _ ⟨.inl ⟨1, ck_1 _ _ _ _ _ _ _ _ _, rfl⟩, Below.refl _ _⟩
theorem ty_input {a n : Int} {nm op : By} {l r g : Tr} : TyC (nd 9 a n nm op l r g) := by
 intro w C fv mv nv fs ns k v hs hf hx
 obtain ⟨b, vl, vr, vg, ys, hb, rfl, hblk, hxl, hxr, hrow, hro, hxg⟩ := nd_open hx
 have c0 := z_ (i := 0) hblk rfl
 have HBk : Hid (w.heap[b]? = some (.cells #[.int .i64 9, .int .i64 a, .int .i64 n, str nm, str op, vl, vr, vg] 252)) := hblk
 have HS : Hid (CkS w C fv mv nv ns k) := hs
 have HF : Hid (FxS w C fv mv fs) := hf
 have HXl : Hid (ExAt (Lo C) w l vl) := hxl
 have HXr : Hid (ExAt (Lo C) w r vr) := hxr
 have HG0 : Hid (∀ e w', TyP (ck (lkL fs) ns (nd 9 a n nm op l r g) []) w e w' → TyP (ck (lkL fs) ns (nd 9 a n nm op l r g) []) w e w') := fun _ _ h => h
 generalize hG : TyP (ck (lkL fs) ns (nd 9 a n nm op l r g) []) w = G at *
 clear HG0
 have HG0 : Hid (∀ e w', TyP (ck (lkL fs) ns (nd 9 a n nm op l r g) []) w e w' → G e w') := fun e w' h => by rw [← hG]; exact h
 clear hs hf hx hblk hxl hxr hrow hro hxg hG
 go_enter Tryz.func156, Tryz.ntmps156
 go_wp2
 exact HG0.out _ _ ⟨.inl ⟨1, ck_9 _ _ _ _ _ _ _ _ _, rfl⟩, Below.refl _ _⟩
theorem ty_name {a n : Int} {nm op : By} {l r g : Tr} : TyC (nd 2 a n nm op l r g) := by
 intro w C fv mv nv fs ns k v hs hf hx
 obtain ⟨b, vl, vr, vg, ys, hb, rfl, hblk, hxl, hxr, hrow, hro, hxg⟩ := nd_open hx
 have c0 := z_ (i := 0) hblk rfl
 have HBk : Hid (w.heap[b]? = some (.cells #[.int .i64 2, .int .i64 a, .int .i64 n, str nm, str op, vl, vr, vg] 252)) := hblk
 have HS : Hid (CkS w C fv mv nv ns k) := hs
 have HF : Hid (FxS w C fv mv fs) := hf
 have HXl : Hid (ExAt (Lo C) w l vl) := hxl
 have HXr : Hid (ExAt (Lo C) w r vr) := hxr
 obtain ⟨y, hy, hyt⟩ := zM nm
 have HY : Hid (y.data.toList = nm) := hyt
 have c3 : w.cell? ⟨b, 3, none⟩ = some (.string y) := by rw [← hy]; exact z_ (i := 3) hblk rfl
 have c1 := z_ (i := 1) hblk rfl
 have HSd : Hid (CkS w.drew C fv mv nv ns k) := hs.below (Below.refl _ _).drew
 have HBd : Hid (∀ w', Below w.drew.heap.size w.drew w' → Below w.heap.size w w') := fun w' h => (Below.refl _ _).drew.trans h
 have HG0 : Hid (∀ e w', TyP (ck (lkL fs) ns (nd 2 a n nm op l r g) []) w e w' → TyP (ck (lkL fs) ns (nd 2 a n nm op l r g) []) w e w') := fun _ _ h => h
 generalize hG : TyP (ck (lkL fs) ns (nd 2 a n nm op l r g) []) w = G at *
 clear HG0
 have HG0 : Hid (∀ e w', TyP (ck (lkL fs) ns (nd 2 a n nm op l r g) []) w e w' → G e w') := fun e w' h => by rw [← hG]; exact h
 clear hy hyt
 clear hs hf hx hblk hxl hxr hrow hro hxg hG
 go_enter Tryz.func156, Tryz.ntmps156
 go_wp2_with fail
 go_region_with (go_at_call 158; refine (variable_any HSd.out y a).mono ?_; rintro e w1 ⟨⟨t, hr, rfl⟩ | ⟨hr, b1, rfl, hb1⟩, hw⟩; rotate_left; exact (by refine ⟨rfl, HG0.out _ _ ⟨.inr ⟨7, a, ?_, b1, rfl, hb1⟩, HBd.out _ hw⟩⟩; rw [ck_2, ← HY.out, hr]); have HB1 : Hid (Below w.heap.size w w1) := HBd.out _ hw; have HR : Hid (fndN ns y.data.toList = some t) := hr; clear hw hr)
 all_goals
  go_wp2
  go_ret
  refine HG0.out _ _ ⟨.inl ⟨t, ?_, rfl⟩, HB1.out⟩
  rw [ck_2, ← HY.out, HR.out]
theorem ty_un {a n : Int} {nm op : By} {l r g : Tr} (IL : MuC l) : TyC (nd 4 a n nm op l r g) := by
 intro w C fv mv nv fs ns k v hs hf hx
 obtain ⟨b, vl, vr, vg, ys, hb, rfl, hblk, hxl, hxr, hrow, hro, hxg⟩ := nd_open hx
 have c0 := z_ (i := 0) hblk rfl
 have HBk : Hid (w.heap[b]? = some (.cells #[.int .i64 4, .int .i64 a, .int .i64 n, str nm, str op, vl, vr, vg] 252)) := hblk
 have HS : Hid (CkS w C fv mv nv ns k) := hs
 have HF : Hid (FxS w C fv mv fs) := hf
 have HXl : Hid (ExAt (Lo C) w l vl) := hxl
 have HXr : Hid (ExAt (Lo C) w r vr) := hxr
 have c5 := z_ (i := 5) hblk rfl
 have HG0 : Hid (∀ e w', TyP (ck (lkL fs) ns (nd 4 a n nm op l r g) []) w e w' → TyP (ck (lkL fs) ns (nd 4 a n nm op l r g) []) w e w') := fun _ _ h => h
 generalize hG : TyP (ck (lkL fs) ns (nd 4 a n nm op l r g) []) w = G at *
 clear HG0
 have HG0 : Hid (∀ e w', TyP (ck (lkL fs) ns (nd 4 a n nm op l r g) []) w e w' → G e w') := fun e w' h => by rw [← hG]; exact h
 clear hs hf hx hblk hxl hxr hrow hro hxg hG
 go_enter Tryz.func156, Tryz.ntmps156
 go_wp2_with (go_at_call 157; fail)
 refine (IL w C fv mv nv fs ns k vl 1 HS.out HF.out HXl.out).mono ?_
 rintro e w1 ⟨⟨hr, rfl⟩ | ⟨k1, a1, hr, b1, rfl, hb1⟩, hw⟩
 ·have HB1 : Hid (Below w.heap.size w w1) := hw
  have HR : Hid (mu (lkL fs) ns l 1 = .ok ()) := hr
  clear hw hr
  go_wp2
  refine HG0.out _ _ ⟨.inl ⟨1, ?_, rfl⟩, HB1.out⟩
  rw [ck_4, HR.out]
  rfl
 ·refine ⟨rfl, HG0.out _ _ ⟨.inr ⟨k1, a1, ?_, b1, rfl, hb1⟩, hw⟩⟩
  rw [ck_4, hr]
  rfl
theorem ty_new {a n : Int} {nm op : By} {l r g : Tr} (IL : MuC l) : TyC (nd 6 a n nm op l r g) := by
 intro w C fv mv nv fs ns k v hs hf hx
 obtain ⟨b, vl, vr, vg, ys, hb, rfl, hblk, hxl, hxr, hrow, hro, hxg⟩ := nd_open hx
 have c0 := z_ (i := 0) hblk rfl
 have HBk : Hid (w.heap[b]? = some (.cells #[.int .i64 6, .int .i64 a, .int .i64 n, str nm, str op, vl, vr, vg] 252)) := hblk
 have HS : Hid (CkS w C fv mv nv ns k) := hs
 have HF : Hid (FxS w C fv mv fs) := hf
 have HXl : Hid (ExAt (Lo C) w l vl) := hxl
 have HXr : Hid (ExAt (Lo C) w r vr) := hxr
 have c5 := z_ (i := 5) hblk rfl
 have HG0 : Hid (∀ e w', TyP (ck (lkL fs) ns (nd 6 a n nm op l r g) []) w e w' → TyP (ck (lkL fs) ns (nd 6 a n nm op l r g) []) w e w') := fun _ _ h => h
 generalize hG : TyP (ck (lkL fs) ns (nd 6 a n nm op l r g) []) w = G at *
 clear HG0
 have HG0 : Hid (∀ e w', TyP (ck (lkL fs) ns (nd 6 a n nm op l r g) []) w e w' → G e w') := fun e w' h => by rw [← hG]; exact h
 clear hs hf hx hblk hxl hxr hrow hro hxg hG
 go_enter Tryz.func156, Tryz.ntmps156
 go_wp2_with (go_at_call 157; fail)
 refine (IL w C fv mv nv fs ns k vl 1 HS.out HF.out HXl.out).mono ?_
 rintro e w1 ⟨⟨hr, rfl⟩ | ⟨k1, a1, hr, b1, rfl, hb1⟩, hw⟩
 ·have HB1 : Hid (Below w.heap.size w w1) := hw
  have HR : Hid (mu (lkL fs) ns l 1 = .ok ()) := hr
  clear hw hr
  go_wp2
  refine HG0.out _ _ ⟨.inl ⟨2, ?_, rfl⟩, HB1.out⟩
  rw [ck_6, HR.out]
  rfl
 ·refine ⟨rfl, HG0.out _ _ ⟨.inr ⟨k1, a1, ?_, b1, rfl, hb1⟩, hw⟩⟩
  rw [ck_6, hr]
  rfl
theorem ty_len {a n : Int} {nm op : By} {l r g : Tr} (IL : MuC l) : TyC (nd 7 a n nm op l r g) := by
 intro w C fv mv nv fs ns k v hs hf hx
 obtain ⟨b, vl, vr, vg, ys, hb, rfl, hblk, hxl, hxr, hrow, hro, hxg⟩ := nd_open hx
 have c0 := z_ (i := 0) hblk rfl
 have HBk : Hid (w.heap[b]? = some (.cells #[.int .i64 7, .int .i64 a, .int .i64 n, str nm, str op, vl, vr, vg] 252)) := hblk
 have HS : Hid (CkS w C fv mv nv ns k) := hs
 have HF : Hid (FxS w C fv mv fs) := hf
 have HXl : Hid (ExAt (Lo C) w l vl) := hxl
 have HXr : Hid (ExAt (Lo C) w r vr) := hxr
 have c5 := z_ (i := 5) hblk rfl
 have HG0 : Hid (∀ e w', TyP (ck (lkL fs) ns (nd 7 a n nm op l r g) []) w e w' → TyP (ck (lkL fs) ns (nd 7 a n nm op l r g) []) w e w') := fun _ _ h => h
 generalize hG : TyP (ck (lkL fs) ns (nd 7 a n nm op l r g) []) w = G at *
 clear HG0
 have HG0 : Hid (∀ e w', TyP (ck (lkL fs) ns (nd 7 a n nm op l r g) []) w e w' → G e w') := fun e w' h => by rw [← hG]; exact h
 clear hs hf hx hblk hxl hxr hrow hro hxg hG
 go_enter Tryz.func156, Tryz.ntmps156
 go_wp2_with (go_at_call 157; fail)
 refine (IL w C fv mv nv fs ns k vl 2 HS.out HF.out HXl.out).mono ?_
 rintro e w1 ⟨⟨hr, rfl⟩ | ⟨k1, a1, hr, b1, rfl, hb1⟩, hw⟩
 ·have HB1 : Hid (Below w.heap.size w w1) := hw
  have HR : Hid (mu (lkL fs) ns l 2 = .ok ()) := hr
  clear hw hr
  go_wp2
  refine HG0.out _ _ ⟨.inl ⟨1, ?_, rfl⟩, HB1.out⟩
  rw [ck_7, HR.out]
  rfl
 ·refine ⟨rfl, HG0.out _ _ ⟨.inr ⟨k1, a1, ?_, b1, rfl, hb1⟩, hw⟩⟩
  rw [ck_7, hr]
  rfl
theorem ty_bin {a n : Int} {nm op : By} {l r g : Tr} (IL : MuC l) (IR : MuC r) : TyC (nd 3 a n nm op l r g) := by
 intro w C fv mv nv fs ns k v hs hf hx
 obtain ⟨b, vl, vr, vg, ys, hb, rfl, hblk, hxl, hxr, hrow, hro, hxg⟩ := nd_open hx
 have c0 := z_ (i := 0) hblk rfl
 have HBk : Hid (w.heap[b]? = some (.cells #[.int .i64 3, .int .i64 a, .int .i64 n, str nm, str op, vl, vr, vg] 252)) := hblk
 have HS : Hid (CkS w C fv mv nv ns k) := hs
 have HF : Hid (FxS w C fv mv fs) := hf
 have HXl : Hid (ExAt (Lo C) w l vl) := hxl
 have HXr : Hid (ExAt (Lo C) w r vr) := hxr
 have c5 := z_ (i := 5) hblk rfl
 have HG0 : Hid (∀ e w', TyP (ck (lkL fs) ns (nd 3 a n nm op l r g) []) w e w' → TyP (ck (lkL fs) ns (nd 3 a n nm op l r g) []) w e w') := fun _ _ h => h
 generalize hG : TyP (ck (lkL fs) ns (nd 3 a n nm op l r g) []) w = G at *
 clear HG0
 have HG0 : Hid (∀ e w', TyP (ck (lkL fs) ns (nd 3 a n nm op l r g) []) w e w' → G e w') := fun e w' h => by rw [← hG]; exact h
 clear hs hf hx hblk hxl hxr hrow hro hxg hG
 go_enter Tryz.func156, Tryz.ntmps156
 go_wp2_with (go_at_call 157; fail)
 refine (IL w C fv mv nv fs ns k vl 1 HS.out HF.out HXl.out).mono ?_
 rintro e w1 ⟨⟨hr, rfl⟩ | ⟨k1, a1, hr, b1, rfl, hb1⟩, hw⟩
 ·have HB1 : Hid (Below w.heap.size w w1) := hw
  have HR : Hid (mu (lkL fs) ns l 1 = .ok ()) := hr
  have hlo := hw.mono (Nat.le_of_lt HS.out.lt)
  have HS1 : Hid (CkS w1 C fv mv nv ns k) := HS.out.below hw
  have HF1 : Hid (FxS w1 C fv mv fs) := HF.out.below hlo
  have HX1 : Hid (ExAt (Lo C) w1 r vr) := (zi hlo).ex HXr.out
  have c6 := z_ (i := 6) (blk_at (C := C) HBk.out hw) rfl
  clear hw hr hlo
  go_wp2_with (go_at_call 157; fail)
  refine (IR w1 C fv mv nv fs ns k vr 1 HS1.out HF1.out HX1.out).mono ?_
  rintro e w2 ⟨⟨hr, rfl⟩ | ⟨k1, a1, hr, b1, rfl, hb1⟩, hw⟩
  ·have HB2 : Hid (Below w.heap.size w w2) := HB1.out.trans (hw.mono HB1.out.size)
   have HR2 : Hid (mu (lkL fs) ns r 1 = .ok ()) := hr
   clear hw hr
   go_wp2
   refine HG0.out _ _ ⟨.inl ⟨1, ?_, rfl⟩, HB2.out⟩
   rw [ck_3, HR.out]
   show bx (mu (lkL fs) ns r 1) _ = _
   rw [HR2.out]
   rfl
  ·refine ⟨rfl, HG0.out _ _ ⟨.inr ⟨k1, a1, ?_, b1, rfl, hb1⟩, HB1.out.trans (hw.mono HB1.out.size)⟩⟩
   rw [ck_3, HR.out]
   show bx (mu (lkL fs) ns r 1) _ = _
   rw [hr]
   rfl
 ·refine ⟨rfl, HG0.out _ _ ⟨.inr ⟨k1, a1, ?_, b1, rfl, hb1⟩, hw⟩⟩
  rw [ck_3, hr]
  rfl
theorem ty_item {a n : Int} {nm op : By} {l r g : Tr} (IL : MuC l) (IR : MuC r) : TyC (nd 8 a n nm op l r g) := by
 intro w C fv mv nv fs ns k v hs hf hx
 obtain ⟨b, vl, vr, vg, ys, hb, rfl, hblk, hxl, hxr, hrow, hro, hxg⟩ := nd_open hx
 have c0 := z_ (i := 0) hblk rfl
 have HBk : Hid (w.heap[b]? = some (.cells #[.int .i64 8, .int .i64 a, .int .i64 n, str nm, str op, vl, vr, vg] 252)) := hblk
 have HS : Hid (CkS w C fv mv nv ns k) := hs
 have HF : Hid (FxS w C fv mv fs) := hf
 have HXl : Hid (ExAt (Lo C) w l vl) := hxl
 have HXr : Hid (ExAt (Lo C) w r vr) := hxr
 have c5 := z_ (i := 5) hblk rfl
 have HG0 : Hid (∀ e w', TyP (ck (lkL fs) ns (nd 8 a n nm op l r g) []) w e w' → TyP (ck (lkL fs) ns (nd 8 a n nm op l r g) []) w e w') := fun _ _ h => h
 generalize hG : TyP (ck (lkL fs) ns (nd 8 a n nm op l r g) []) w = G at *
 clear HG0
 have HG0 : Hid (∀ e w', TyP (ck (lkL fs) ns (nd 8 a n nm op l r g) []) w e w' → G e w') := fun e w' h => by rw [← hG]; exact h
 clear hs hf hx hblk hxl hxr hrow hro hxg hG
 go_enter Tryz.func156, Tryz.ntmps156
 go_wp2_with (go_at_call 157; fail)
 refine (IL w C fv mv nv fs ns k vl 2 HS.out HF.out HXl.out).mono ?_
 rintro e w1 ⟨⟨hr, rfl⟩ | ⟨k1, a1, hr, b1, rfl, hb1⟩, hw⟩
 ·have HB1 : Hid (Below w.heap.size w w1) := hw
  have HR : Hid (mu (lkL fs) ns l 2 = .ok ()) := hr
  have hlo := hw.mono (Nat.le_of_lt HS.out.lt)
  have HS1 : Hid (CkS w1 C fv mv nv ns k) := HS.out.below hw
  have HF1 : Hid (FxS w1 C fv mv fs) := HF.out.below hlo
  have HX1 : Hid (ExAt (Lo C) w1 r vr) := (zi hlo).ex HXr.out
  have c6 := z_ (i := 6) (blk_at (C := C) HBk.out hw) rfl
  clear hw hr hlo
  go_wp2_with (go_at_call 157; fail)
  refine (IR w1 C fv mv nv fs ns k vr 1 HS1.out HF1.out HX1.out).mono ?_
  rintro e w2 ⟨⟨hr, rfl⟩ | ⟨k1, a1, hr, b1, rfl, hb1⟩, hw⟩
  ·have HB2 : Hid (Below w.heap.size w w2) := HB1.out.trans (hw.mono HB1.out.size)
   have HR2 : Hid (mu (lkL fs) ns r 1 = .ok ()) := hr
   clear hw hr
   go_wp2
   refine HG0.out _ _ ⟨.inl ⟨1, ?_, rfl⟩, HB2.out⟩
   rw [ck_8, HR.out]
   show bx (mu (lkL fs) ns r 1) _ = _
   rw [HR2.out]
   rfl
  ·refine ⟨rfl, HG0.out _ _ ⟨.inr ⟨k1, a1, ?_, b1, rfl, hb1⟩, HB1.out.trans (hw.mono HB1.out.size)⟩⟩
   rw [ck_8, HR.out]
   show bx (mu (lkL fs) ns r 1) _ = _
   rw [hr]
   rfl
 ·refine ⟨rfl, HG0.out _ _ ⟨.inr ⟨k1, a1, ?_, b1, rfl, hb1⟩, hw⟩⟩
  rw [ck_8, hr]
  rfl
end Go.Proofs.YtnfhpdbbfejioaaGreatDoor
