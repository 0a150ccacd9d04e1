/- HE -/
import Derived.Test.YtnfhpdbbfejioaaGreatDoorQ21
namespace Go.Proofs.YtnfhpdbbfejioaaGreatDoor
set_option linter.unusedVariables false
set_option linter.unusedSimpArgs false
set_option maxRecDepth 100000
set_option maxHeartbeats 4000000
open Go Go.RowKit
def Stb (Q : World → Value → Prop) : Prop := (∀ w w' u, Ks w w' → Q w u → Q w' u) ∧ ∀ w u, Q w u → ∃ k cap, u = .func (.func k) #[] cap
structure Ch2 (W0 : World) (Q1 Q2 : World → Value → Prop) (T1 T2 : TypeId) (c1 c2 a1 a2 : Bool) (x1 x2 x5 x6 : Value) (w : World) : Prop where
 bel : Below W0.heap.size W0 w
 o2 : c2 = true → c1 = true
 e1 : c1 = true → Q1 w x1
 e2 : c2 = true → Q2 w x2
 b1 : a1 = true → ∃ b, x5 = ptr b ∧ W0.heap.size ≤ b ∧ w.heap[b]? = some (.cells #[.nilFunc] T1)
 b2 : a2 = true → ∃ b, x6 = ptr b ∧ W0.heap.size ≤ b ∧ w.heap[b]? = some (.cells #[.nilFunc] T2)
 ne : a1 = true → a2 = true → x5 ≠ x6
section
variable {W0 : World} {Q1 Q2 : World → Value → Prop} {T1 T2 : TypeId} {c1 c2 a1 a2 : Bool} {x1 x2 x5 x6 : Value} {w w' : World}
theorem Ch2.below (h : Ch2 W0 Q1 Q2 T1 T2 c1 c2 a1 a2 x1 x2 x5 x6 w) (s1 : Stb Q1) (s2 : Stb Q2) (hb : Below w.heap.size w w') : Ch2 W0 Q1 Q2 T1 T2 c1 c2 a1 a2 x1 x2 x5 x6 w' := by
 refine ⟨h.bel.trans (hb.mono h.bel.size), h.o2, fun e => s1.1 _ _ _ (Ks.below hb) (h.e1 e), fun e => s2.1 _ _ _ (Ks.below hb) (h.e2 e), fun e => ?_, fun e => ?_, h.ne⟩
 ·obtain ⟨b, q1, q2, q3⟩ := h.b1 e; exact ⟨b, q1, q2, zx hb q3⟩
 ·obtain ⟨b, q1, q2, q3⟩ := h.b2 e; exact ⟨b, q1, q2, zx hb q3⟩
theorem Ch2.call1 (h : Ch2 W0 Q1 Q2 T1 T2 c1 c2 a1 a2 x1 x2 x5 x6 w) (s1 : Stb Q1) (s2 : Stb Q2) (hb : Below w.heap.size w w') {u : Value} (hc : Q1 w' u) : Ch2 W0 Q1 Q2 T1 T2 true c2 a1 a2 u x2 x5 x6 w' :=
 let q := h.below s1 s2 hb
 ⟨q.bel, fun _ => rfl, fun _ => hc, q.e2, q.b1, q.b2, q.ne⟩
theorem Ch2.call2 (h : Ch2 W0 Q1 Q2 T1 T2 c1 c2 a1 a2 x1 x2 x5 x6 w) (s1 : Stb Q1) (s2 : Stb Q2) (h1 : c1 = true) (hb : Below w.heap.size w w') {u : Value} (hc : Q2 w' u) : Ch2 W0 Q1 Q2 T1 T2 c1 true a1 a2 x1 u x5 x6 w' :=
 let q := h.below s1 s2 hb
 ⟨q.bel, fun _ => h1, q.e1, fun _ => hc, q.b1, q.b2, q.ne⟩
theorem Ch2.new1 (h : Ch2 W0 Q1 Q2 T1 T2 c1 c2 a1 a2 x1 x2 x5 x6 w) (s1 : Stb Q1) (s2 : Stb Q2) : Ch2 W0 Q1 Q2 T1 T2 c1 c2 true a2 x1 x2 (ptr w.heap.size) x6 (w.alloc (.cells #[.nilFunc] T1)) :=
 let q := h.below s1 s2 (qm w (.cells #[.nilFunc] T1))
 ⟨q.bel, q.o2, q.e1, q.e2, fun _ => ⟨_, rfl, h.bel.size, heap_alloc_last _ _⟩, q.b2, fun _ e => by obtain ⟨b, rfl, _, hb⟩ := h.b2 e; exact (ptr_lt hb).symm⟩
theorem Ch2.new2 (h : Ch2 W0 Q1 Q2 T1 T2 c1 c2 a1 a2 x1 x2 x5 x6 w) (s1 : Stb Q1) (s2 : Stb Q2) : Ch2 W0 Q1 Q2 T1 T2 c1 c2 a1 true x1 x2 x5 (ptr w.heap.size) (w.alloc (.cells #[.nilFunc] T2)) :=
 let q := h.below s1 s2 (qm w (.cells #[.nilFunc] T2))
 ⟨q.bel, q.o2, q.e1, q.e2, q.b1, fun _ => ⟨_, rfl, h.bel.size, heap_alloc_last _ _⟩, fun e _ => by obtain ⟨b, rfl, _, hb⟩ := h.b1 e; exact ptr_lt hb⟩
theorem Ch2.stored {b5 b6 : Nat} (h : Ch2 W0 Q1 Q2 T1 T2 true true true true x1 x2 (ptr b5) (ptr b6) w) (s1 : Stb Q1) (s2 : Stb Q2) (t1 : T1 = 245 ∨ T1 = 67) (t2 : T2 = 245 ∨ T2 = 67) :
  let w2 := (w.setCell ⟨b5, 0, none⟩ x1).setCell ⟨b6, 0, none⟩ x2
  w2.heap[b5]? = some (.cells #[x1] T1) ∧ w2.heap[b6]? = some (.cells #[x2] T2) ∧ Q1 w2 x1 ∧ Q2 w2 x2 ∧ Below W0.heap.size W0 w2 := by
 intro w2
 have pj : ∀ {a b : Nat}, ptr a = ptr b → a = b := fun e => by injection e with e; injection e with e; injection e
 obtain ⟨_, e5, l5, h5⟩ := h.b1 rfl
 obtain rfl := pj e5
 obtain ⟨_, e6, l6, h6⟩ := h.b2 rfl
 obtain rfl := pj e6
 have n56 : b5 ≠ b6 := fun e => h.ne rfl rfl (by rw [e])
 have k1 : Ks w (w.setCell ⟨b5, 0, none⟩ x1) := Ks.set h5 t1
 have g6 : (w.setCell ⟨b5, 0, none⟩ x1).heap[b6]? = some (.cells #[.nilFunc] T2) := by rw [heap_setCell_other _ _ _ _ n56.symm]; exact h6
 have k2 : Ks (w.setCell ⟨b5, 0, none⟩ x1) w2 := Ks.set g6 t2
 have g5 : (w.setCell ⟨b5, 0, none⟩ x1).heap[b5]? = some (.cells #[x1] T1) := heap_setCell_same _ _ _ _ _ _ h5
 refine ⟨?_, heap_setCell_same _ _ _ _ _ _ g6, s1.1 _ _ _ k2 (s1.1 _ _ _ k1 (h.e1 rfl)), s2.1 _ _ _ k2 (s2.1 _ _ _ k1 (h.e2 rfl)), ?_⟩
 ·show (World.setCell _ _ _).heap[b5]? = _
  rw [heap_setCell_other _ _ _ _ n56]; exact g5
 ·exact (h.bel.setCell (p := ⟨b5, 0, none⟩) l5 _).setCell (p := ⟨b6, 0, none⟩) l6 _
end
abbrev QE (P : Nat) (t : Tr) : World → Value → Prop := fun w u => (∃ k cap, u = .func (.func k) #[] cap) ∧ ClE w P t u
abbrev QB (P : Nat) (t : Tr) : World → Value → Prop := fun w u => BlV w P t u
theorem stbE (P : Nat) (t : Tr) : Stb (QE P t) := ⟨fun w w' u k h => ⟨h.1, ClE.kept k _ _ h.2⟩, fun w u h => h.1⟩
theorem stbB (P : Nat) (t : Tr) : Stb (QB P t) := ⟨fun w w' u k h => BlV.kept k h, fun w u h => by obtain ⟨a, p, g, ts, e, _⟩ := h; exact ⟨_, _, e⟩⟩
abbrev lst16 (c1 c2 a1 a2 : Bool) : Array Bool := #[true, true, true, true, true, c1, true, true, true, true, true, c2, a1, a2, false, false]
def PtP (Q : World → Value → Prop) (w : World) (e : Ending) (w' : World) : Prop := ∃ k cap, e = .returned (.func (.func k) #[] cap) ∧ Q w' (.func (.func k) #[] cap) ∧ Below w.heap.size w w'
theorem ptE {P : Nat} {t : Tr} {w : World} {e : Ending} {w' : World} (h : CmP P t w e w') : PtP (QE P t) w e w' := by
 obtain ⟨k, cap, e, h1, h2⟩ := h; exact ⟨k, cap, e, ⟨⟨k, cap, rfl⟩, h1⟩, h2⟩
theorem ptB {P : Nat} {t : Tr} {w : World} {e : Ending} {w' : World} (h : BlP P t w e w') : PtP (QB P t) w e w' := by
 obtain ⟨cap, e, h1, h2⟩ := h; exact ⟨87, cap, e, h1, h2⟩
theorem slice_form {S : Nat → Prop} {w : World} {e z n : Nat} {v : Value} {cs : List Value} (h : RowS S w e z v n cs) : ∃ p c, v = .slice p n c := by
 rcases h.1.2 with ⟨rfl, rfl⟩ | ⟨g, cap, cur, rfl, _⟩
 ·exact ⟨_, _, rfl⟩
 ·exact ⟨_, _, rfl⟩
abbrev frPut (P b o qi qv n0 : Nat) (x1 x2 x5 x6 : Value) : Act := { tmps := #[ptr P, .pointer (some ⟨b, o, none⟩), undef, ptr n0, .nilFunc, x5, x6, ptr P, .pointer (some ⟨b, o, none⟩), .pointer (some ⟨b, o, none⟩), .pointer (some ⟨b, o + 3, none⟩), ptr qi, x1, ptr P, .pointer (some ⟨b, o, none⟩), .pointer (some ⟨b, o, none⟩), .pointer (some ⟨b, o + 4, none⟩), ptr qv, x2, undef], defers := [] }
theorem put_walk {a : Int} {nm : By} {ix v th el : Tr} (hi : CmE ix) (hni : IsNd ix) (hv : CmE v) (hnv : IsNd v) (S : Nat → Prop) (w : World) (P b o : Nat) (vi vv : Option Addr) (vt ve : Value) (h : StM S w b o 3 a nm ix v th el vi vv vt ve) : Calls Tryz.prog 135 #[ptr P, .pointer (some ⟨b, o, none⟩)] w (CsP P (st 3 a nm ix v th el) w) := by
 obtain ⟨qi, hqi⟩ := q_ hni h.ix
 injection hqi with hqi
 subst hqi
 obtain ⟨qv, hqv⟩ := q_ hnv h.v
 injection hqv with hqv
 subst hqv
 obtain ⟨⟨cs, h1, _, k2, k3, k4, _, _⟩, hxi, hxv, _, _⟩ := h
 have hb1 : b < w.heap.size := (Array.getElem?_eq_some_iff.1 h1).1
 obtain ⟨W0, hW0⟩ : ∃ W0, W0 = w.alloc (.cells #[.pointer (some ⟨b, o, none⟩)] 186) := ⟨_, rfl⟩
 have hB0 : Below w.heap.size w W0 := by rw [hW0]; exact qm _ _
 have g0 : W0.heap[w.heap.size]? = some (.cells #[.pointer (some ⟨b, o, none⟩)] 186) := by rw [hW0]; exact heap_alloc_last _ _
 have HG0 : Hid (W0.heap[w.heap.size]? = some (.cells #[.pointer (some ⟨b, o, none⟩)] 186) ∧ W0.heap[b]? = some (.cells cs 147) ∧ cs[o + 2]? = some (str nm) ∧ Below w.heap.size w W0) := ⟨g0, zx hB0 h1, k2, hB0⟩
 have HK : Hid (∀ W, Below W0.heap.size W0 W → W.cell? ⟨w.heap.size, 0, none⟩ = some (.pointer (some ⟨b, o, none⟩)) ∧ W.cell? ⟨b, o + 3, none⟩ = some (ptr qi) ∧ W.cell? ⟨b, o + 4, none⟩ = some (ptr qv)) := fun W hb => by
  have hB := zx hb (zx hB0 h1)
  exact ⟨z_ (i := 0) (zx hb g0) rfl, z_ hB k3, z_ hB k4⟩
 have HC1 : Hid (∀ W, Below W0.heap.size W0 W → Calls Tryz.prog 138 #[ptr P, ptr qi] W (PtP (QE P ix) W)) := fun W hb => (hi S W P _ (zD hb (zD hB0 hxi))).mono fun e w' h => ptE h
 have HC2 : Hid (∀ W, Below W0.heap.size W0 W → Calls Tryz.prog 138 #[ptr P, ptr qv] W (PtP (QE P v) W)) := fun W hb => (hv S W P _ (zD hb (zD hB0 hxv))).mono fun e w' h => ptE h
 have HQ1 : Hid (Stb (QE P ix)) := stbE P ix
 have HQ2 : Hid (Stb (QE P v)) := stbE P v
 have hmf := mkf
 clear h1 k2 k3 k4 hi hni hv hnv g0 hB0 hxi hxv
 go_enter Tryz.func135, Tryz.ntmps135
 go_upto_region 1 with fail
 rw [← hW0]
 clear hW0
 go_cut [5, 6] (fun v5 v6 wx => ∃ b5 b6 x1 x2, v5 = ptr b5 ∧ v6 = ptr b6 ∧ Hid (wx.heap[b5]? = some (.cells #[x1] 245) ∧ wx.heap[b6]? = some (.cells #[x2] 245) ∧ QE P ix wx x1 ∧ QE P v wx x2 ∧ Below W0.heap.size W0 wx))
 case first =>
  refine wp_region_held_drew (S := fun w' => w'.cell? ⟨w.heap.size, 0, none⟩ = some (.pointer (some ⟨b, o, none⟩)) ∧ w'.cell? ⟨b, o + 3, none⟩ = some (ptr qi) ∧ w'.cell? ⟨b, o + 4, none⟩ = some (ptr qv)) (by kernel_rfl) ?_ (fun hHeld => ?_)
  ·exact HK.out _ (Below.refl _ _).drew
  refine wpAnyH_take (i := 0) (v := ?val0) rfl (by kernel_rfl) (by kernel_rfl) (by kernel_rfl) (fun _ _ _ h => h) (Or.inl ⟨by rfl, ?hy0⟩) hHeld ?go0
  case hy0 => (intro w hSw; (try dsimp only at hSw); go_simp; try rfl)
  case go0 =>
  simp only [Act.put, List.setIfInBounds_toArray, List.set_cons_zero, List.set_cons_succ, List.getElem_toArray, List.getElem_cons_zero, List.getElem_cons_succ]
  refine wpAnyH_take (i := 1) (v := ?val1) rfl (by kernel_rfl) (by kernel_rfl) (by kernel_rfl) (fun _ _ _ h => h) (Or.inl ⟨by rfl, ?hy1⟩) hHeld ?go1
  case hy1 => (intro w hSw; (try dsimp only at hSw); go_simp; try rfl)
  case go1 =>
  simp only [Act.put, List.setIfInBounds_toArray, List.set_cons_zero, List.set_cons_succ, List.getElem_toArray, List.getElem_cons_zero, List.getElem_cons_succ]
  refine wpAnyH_take (i := 2) (v := ?val2) rfl (by kernel_rfl) (by kernel_rfl) (by kernel_rfl) (fun _ _ _ h => h) (Or.inl ⟨by rfl, ?hy2⟩) hHeld ?go2
  case hy2 => (intro w hSw; (try dsimp only at hSw); go_simp; try rfl)
  case go2 =>
  simp only [Act.put, List.setIfInBounds_toArray, List.set_cons_zero, List.set_cons_succ, List.getElem_toArray, List.getElem_cons_zero, List.getElem_cons_succ]
  refine wpAnyH_take (i := 3) (v := ?val3) rfl (by kernel_rfl) (by kernel_rfl) (by kernel_rfl) (fun _ _ _ h => h) (Or.inl ⟨by rfl, ?hy3⟩) hHeld ?go3
  case hy3 => (intro w hSw; (try dsimp only at hSw); go_simp; try rfl)
  case go3 =>
  simp only [Act.put, List.setIfInBounds_toArray, List.set_cons_zero, List.set_cons_succ, List.getElem_toArray, List.getElem_cons_zero, List.getElem_cons_succ]
  refine wpAnyH_take (i := 4) (v := ?val4) rfl (by kernel_rfl) (by kernel_rfl) (by kernel_rfl) (fun _ _ _ h => h) (Or.inl ⟨by rfl, ?hy4⟩) hHeld ?go4
  case hy4 => (intro w hSw; (try dsimp only at hSw); go_simp; try rfl)
  case go4 =>
  simp only [Act.put, List.setIfInBounds_toArray, List.set_cons_zero, List.set_cons_succ, List.getElem_toArray, List.getElem_cons_zero, List.getElem_cons_succ]
  refine wpAnyH_take (i := 6) (v := ?val6) rfl (by kernel_rfl) (by kernel_rfl) (by kernel_rfl) (fun _ _ _ h => h) (Or.inl ⟨by rfl, ?hy6⟩) hHeld ?go6
  case hy6 => (intro w hSw; (try dsimp only at hSw); go_simp; try rfl)
  case go6 =>
  simp only [Act.put, List.setIfInBounds_toArray, List.set_cons_zero, List.set_cons_succ, List.getElem_toArray, List.getElem_cons_zero, List.getElem_cons_succ]
  refine wpAnyH_take (i := 7) (v := ?val7) rfl (by kernel_rfl) (by kernel_rfl) (by kernel_rfl) (fun _ _ _ h => h) (Or.inl ⟨by rfl, ?hy7⟩) hHeld ?go7
  case hy7 => (intro w hSw; (try dsimp only at hSw); go_simp; try rfl)
  case go7 =>
  simp only [Act.put, List.setIfInBounds_toArray, List.set_cons_zero, List.set_cons_succ, List.getElem_toArray, List.getElem_cons_zero, List.getElem_cons_succ]
  refine wpAnyH_take (i := 8) (v := ?val8) rfl (by kernel_rfl) (by kernel_rfl) (by kernel_rfl) (fun _ _ _ h => h) (Or.inl ⟨by rfl, ?hy8⟩) hHeld ?go8
  case hy8 => (intro w hSw; (try dsimp only at hSw); go_simp; try rfl)
  case go8 =>
  simp only [Act.put, List.setIfInBounds_toArray, List.set_cons_zero, List.set_cons_succ, List.getElem_toArray, List.getElem_cons_zero, List.getElem_cons_succ]
  refine wpAnyH_take (i := 9) (v := ?val9) rfl (by kernel_rfl) (by kernel_rfl) (by kernel_rfl) (fun _ _ _ h => h) (Or.inl ⟨by rfl, ?hy9⟩) hHeld ?go9
  case hy9 => (intro w hSw; (try dsimp only at hSw); go_simp; try rfl)
  case go9 =>
  simp only [Act.put, List.setIfInBounds_toArray, List.set_cons_zero, List.set_cons_succ, List.getElem_toArray, List.getElem_cons_zero, List.getElem_cons_succ]
  refine wpAnyH_take (i := 10) (v := ?val10) rfl (by kernel_rfl) (by kernel_rfl) (by kernel_rfl) (fun _ _ _ h => h) (Or.inl ⟨by rfl, ?hy10⟩) hHeld ?go10
  case hy10 => (intro w hSw; (try dsimp only at hSw); go_simp; try rfl)
  case go10 =>
  simp only [Act.put, List.setIfInBounds_toArray, List.set_cons_zero, List.set_cons_succ, List.getElem_toArray, List.getElem_cons_zero, List.getElem_cons_succ]
  refine wpAnyH_meet (stop := lst16 true true true true) (n := 2) (I := fun listed a' w' => ∃ c1 c2 a1 a2 x1 x2 x5 x6, listed = lst16 c1 c2 a1 a2 ∧ a' = frPut P b o qi qv w.heap.size x1 x2 x5 x6 ∧ Ch2 W0 (QE P ix) (QE P v) 245 245 c1 c2 a1 a2 x1 x2 x5 x6 w') rfl ?step ?stop ?cnt _ _ _ _ ⟨false, false, false, false, undef, undef, undef, undef, by kernel_rfl, rfl, ?beg⟩ (by kernel_rfl) (by first | omega | decide)
  case beg => exact ⟨(Below.refl _ _).drew, fun e => (by cases e), fun e => (by cases e), fun e => (by cases e), fun e => (by cases e), fun e => (by cases e), fun e => (by cases e)⟩
  case cnt =>
   rintro listed a' w' ⟨c1, c2, a1, a2, x1, x2, x5, x6, rfl, _, _⟩ hc
   revert hc
   cases c1 <;> cases c2 <;> cases a1 <;> cases a2 <;> first | exact fun _ => rfl | exact fun h => absurd h (by decide)
  case step =>
   rintro listed a' w' ⟨c1, c2, a1, a2, x1, x2, x5, x6, rfl, rfl, hI⟩ hs
   refine ⟨?_, fun i hi => ?_⟩
   ·have o2 := hI.o2
    clear hI
    revert hs o2
    cases c1 <;> cases c2 <;> cases a1 <;> cases a2 <;> first | exact fun _ _ => by decide +kernel | exact fun h _ => absurd rfl h | exact fun _ h => absurd (h rfl) (by decide)
   ·obtain ⟨h0, o', ho', -⟩ := mem_ready.1 hi
    have h24 : i < 16 := (Array.getElem?_eq_some_iff.1 ho').1
    clear ho' o'
    have hcs : i = 5 ∨ i = 11 ∨ i = 12 ∨ i = 13 ∨ i = 14 ∨ i = 15 := by
     have hd : ∀ j : Fin 16, (j.val = 5 ∨ j.val = 11 ∨ j.val = 12 ∨ j.val = 13 ∨ j.val = 14 ∨ j.val = 15) ∨ (lst16 c1 c2 a1 a2).getD j.val true = true := by
      cases c1 <;> cases c2 <;> cases a1 <;> cases a2 <;> decide +kernel
     rcases hd ⟨i, h24⟩ with h | h
     ·exact h
     ·rw [h0] at h; cases h
    clear h24 h0
    rcases hcs with rfl | rfl | rfl | rfl | rfl | rfl
    ·refine wpOp_step (o := { dst := some 12, op := Op.call { callee := Callee.value (Operand.func 138), args := #[Operand.tmp 7, Operand.tmp 11], argTypes := #[57, 145] }, type := 245, pos := "stmt.go:46", after := #[{ on := 0, ground := Ground.data }, { on := 4, ground := Ground.data }], guard := none }) rfl (fun K hK => ?_)
     go_simp
     refine (HC1.out w' hI.bel).mono ?_
     rintro e w1 ⟨k1, cp1, rfl, hcl, hb1⟩
     have hI2 := hI.call1 HQ1.out HQ2.out hb1 (u := .func (.func k1) #[] cp1) hcl
     exact hK _ _ ⟨HK.out _ hI2.bel, true, c2, a1, a2, _, x2, x5, x6, rfl, rfl, hI2⟩
    ·have q1 : c1 = true := (z8 hi (o := { dst := some 18, op := Op.call { callee := Callee.value (Operand.func 138), args := #[Operand.tmp 13, Operand.tmp 17], argTypes := #[57, 145] }, type := 245, pos := "stmt.go:46", after := #[{ on := 6, ground := Ground.data }, { on := 10, ground := Ground.data }, { on := 5, ground := Ground.chain }], guard := none }) rfl).2 ⟨5, .chain⟩ (by simp) rfl
     refine wpOp_step (o := { dst := some 18, op := Op.call { callee := Callee.value (Operand.func 138), args := #[Operand.tmp 13, Operand.tmp 17], argTypes := #[57, 145] }, type := 245, pos := "stmt.go:46", after := #[{ on := 6, ground := Ground.data }, { on := 10, ground := Ground.data }, { on := 5, ground := Ground.chain }], guard := none }) rfl (fun K hK => ?_)
     go_simp
     refine (HC2.out w' hI.bel).mono ?_
     rintro e w1 ⟨k1, cp1, rfl, hcl, hb1⟩
     have hI2 := hI.call2 HQ1.out HQ2.out q1 hb1 (u := .func (.func k1) #[] cp1) hcl
     exact hK _ _ ⟨HK.out _ hI2.bel, c1, true, a1, a2, x1, _, x5, x6, rfl, rfl, hI2⟩
    ·refine wpOp_step (o := { dst := some 5, op := Op.alloc 245, type := 0, pos := "stmt.go:46", after := #[], guard := none }) rfl (fun K hK => ?_)
     go_simp
     have hI2 := hI.new1 HQ1.out HQ2.out
     exact hK _ _ ⟨HK.out _ hI2.bel, c1, c2, true, a2, x1, x2, _, x6, rfl, rfl, hI2⟩
    ·refine wpOp_step (o := { dst := some 6, op := Op.alloc 245, type := 0, pos := "stmt.go:46", after := #[], guard := none }) rfl (fun K hK => ?_)
     go_simp
     have hI2 := hI.new2 HQ1.out HQ2.out
     exact hK _ _ ⟨HK.out _ hI2.bel, c1, c2, a1, true, x1, x2, x5, _, rfl, rfl, hI2⟩
    ·exfalso
     have ra := (z8 hi (o := { dst := none, op := Op.store 245 (Operand.tmp 5) (Operand.tmp 12), type := 0, pos := "stmt.go:46", after := #[{ on := 12, ground := Ground.data }, { on := 5, ground := Ground.data }, { on := 11, ground := Ground.chain }, { on := 0, ground := Ground.phase }, { on := 1, ground := Ground.phase }, { on := 2, ground := Ground.phase }, { on := 3, ground := Ground.phase }, { on := 4, ground := Ground.phase }, { on := 5, ground := Ground.phase }, { on := 6, ground := Ground.textOnly Departure.lateStores }, { on := 7, ground := Ground.textOnly Departure.lateStores }, { on := 8, ground := Ground.textOnly Departure.lateStores }, { on := 9, ground := Ground.textOnly Departure.lateStores }, { on := 10, ground := Ground.textOnly Departure.lateStores }, { on := 11, ground := Ground.textOnly Departure.lateStoresUnsure }, { on := 12, ground := Ground.phase }, { on := 13, ground := Ground.phase }], guard := none }) rfl).2
     have q2 : c2 = true := ra ⟨11, .chain⟩ (by simp) rfl
     have q1 : c1 = true := hI.o2 q2
     have r1 : a1 = true := ra ⟨12, .phase⟩ (by simp) rfl
     have r2 : a2 = true := ra ⟨13, .phase⟩ (by simp) rfl
     subst q1 q2 r1 r2
     exact hs rfl
    ·have q : false = true := (z8 hi (o := { dst := none, op := Op.store 245 (Operand.tmp 6) (Operand.tmp 18), type := 0, pos := "stmt.go:46", after := #[{ on := 13, ground := Ground.data }, { on := 11, ground := Ground.data }, { on := 14, ground := Ground.chain }, { on := 0, ground := Ground.phase }, { on := 1, ground := Ground.phase }, { on := 2, ground := Ground.phase }, { on := 3, ground := Ground.phase }, { on := 4, ground := Ground.phase }, { on := 5, ground := Ground.phase }, { on := 6, ground := Ground.phase }, { on := 7, ground := Ground.phase }, { on := 8, ground := Ground.phase }, { on := 9, ground := Ground.phase }, { on := 10, ground := Ground.phase }, { on := 11, ground := Ground.phase }, { on := 12, ground := Ground.phase }, { on := 13, ground := Ground.phase }, { on := 14, ground := Ground.phase }], guard := none }) rfl).2 ⟨14, .chain⟩ (by simp) rfl
     cases q
  case stop =>
   rintro a' w' ⟨c1, c2, a1, a2, x1, x2, x5, x6, hl, rfl, hI⟩
   have hl2 : c1 = true ∧ c2 = true ∧ a1 = true ∧ a2 = true := by
    simp only [lst16, Array.mk.injEq, List.cons.injEq, true_and, and_true] at hl
    exact ⟨hl.1.symm, hl.2.1.symm, hl.2.2.1.symm, hl.2.2.2.symm⟩
   obtain ⟨rfl, rfl, rfl, rfl⟩ := hl2
   obtain ⟨k1, cp1, rfl⟩ := HQ1.out.2 _ _ (hI.e1 rfl)
   obtain ⟨k2, cp2, rfl⟩ := HQ2.out.2 _ _ (hI.e2 rfl)
   obtain ⟨b5, rfl, l5, g5⟩ := hI.b1 rfl
   obtain ⟨b6, rfl, l6, g6⟩ := hI.b2 rfl
   have n56 : b5 ≠ b6 := fun e => hI.ne rfl rfl (by rw [e])
   have z5 : w'.cell? ⟨b5, 0, none⟩ = some .nilFunc := z_ (i := 0) g5 rfl
   have z6 : w'.cell? ⟨b6, 0, none⟩ = some .nilFunc := z_ (i := 0) g6 rfl
   have y5 : w'.frozen? ⟨b5, 0, none⟩ = false := by simp [World.frozen?, g5]
   have y6 : w'.frozen? ⟨b6, 0, none⟩ = false := by simp [World.frozen?, g6]
   have HF : Hid (_ ∧ _ ∧ _ ∧ _ ∧ _) := hI.stored HQ1.out HQ2.out (.inl rfl) (by decide)
   have HBl : Hid (Below W0.heap.size W0 w') := hI.bel
   clear hI hl g5 g6
   refine wpAnyH_ready (rs := [14]) (by kernel_rfl) (by simp) ?_
   refine AllReadyH.cons (o := { dst := none, op := Op.store 245 (Operand.tmp 5) (Operand.tmp 12), type := 0, pos := "stmt.go:46", after := #[{ on := 12, ground := Ground.data }, { on := 5, ground := Ground.data }, { on := 11, ground := Ground.chain }, { on := 0, ground := Ground.phase }, { on := 1, ground := Ground.phase }, { on := 2, ground := Ground.phase }, { on := 3, ground := Ground.phase }, { on := 4, ground := Ground.phase }, { on := 5, ground := Ground.phase }, { on := 6, ground := Ground.textOnly Departure.lateStores }, { on := 7, ground := Ground.textOnly Departure.lateStores }, { on := 8, ground := Ground.textOnly Departure.lateStores }, { on := 9, ground := Ground.textOnly Departure.lateStores }, { on := 10, ground := Ground.textOnly Departure.lateStores }, { on := 11, ground := Ground.textOnly Departure.lateStoresUnsure }, { on := 12, ground := Ground.phase }, { on := 13, ground := Ground.phase }], guard := none }) rfl (fun K hK => ?_) AllReadyH.nil
   go_simp
   refine hK _ _ (HK.out _ (HBl.out.setCell (p := ⟨b5, 0, none⟩) l5 _)) (fun _ => ?_)
   clear hK K
   refine wpAnyH_ready (rs := [15]) (by kernel_rfl) (by simp) ?_
   refine AllReadyH.cons (o := { dst := none, op := Op.store 245 (Operand.tmp 6) (Operand.tmp 18), type := 0, pos := "stmt.go:46", after := #[{ on := 13, ground := Ground.data }, { on := 11, ground := Ground.data }, { on := 14, ground := Ground.chain }, { on := 0, ground := Ground.phase }, { on := 1, ground := Ground.phase }, { on := 2, ground := Ground.phase }, { on := 3, ground := Ground.phase }, { on := 4, ground := Ground.phase }, { on := 5, ground := Ground.phase }, { on := 6, ground := Ground.phase }, { on := 7, ground := Ground.phase }, { on := 8, ground := Ground.phase }, { on := 9, ground := Ground.phase }, { on := 10, ground := Ground.phase }, { on := 11, ground := Ground.phase }, { on := 12, ground := Ground.phase }, { on := 13, ground := Ground.phase }, { on := 14, ground := Ground.phase }], guard := none }) rfl (fun K hK => ?_) AllReadyH.nil
   go_simp
   refine hK _ _ (HK.out _ ((HBl.out.setCell (p := ⟨b5, 0, none⟩) l5 _).setCell (p := ⟨b6, 0, none⟩) l6 _)) (fun _ => ?_)
   clear hK K
   refine wpAnyH_done (by kernel_rfl) ?_ _
   go_wp2_with fail
   go_meet
   exact ⟨b5, b6, _, _, rfl, rfl, HF.out⟩
 case rest =>
  obtain ⟨b5, b6, x1, x2, rfl, rfl, HF⟩ := hcut
  go_wp2
  go_ret
  obtain ⟨f1, f2, f3, f4, f5⟩ := HF.out
  obtain ⟨g1, g2, g3, g4⟩ := HG0.out
  refine ⟨_, _, rfl, ?_, g4.trans (f5.mono g4.size)⟩
  rw [ClB]
  exact ⟨_, [], rfl, by rw [ClB], .inl ⟨rfl, b5, b6, w.heap.size, x1, x2, rfl, f1, f2, ⟨b, o, zx f5 g1, cs, zx f5 g2, g3⟩, f3.2, f4.2⟩⟩
abbrev frLoop (P b o qv nt ct n0 : Nat) (pt : Option Addr) (x1 x2 x5 x6 : Value) : Act := { tmps := #[ptr P, .pointer (some ⟨b, o, none⟩), ptr n0, undef, .nilFunc, x5, x6, ptr P, .pointer (some ⟨b, o, none⟩), .pointer (some ⟨b, o, none⟩), .pointer (some ⟨b, o + 4, none⟩), ptr qv, x1, ptr P, .pointer (some ⟨b, o, none⟩), .pointer (some ⟨b, o, none⟩), .pointer (some ⟨b, o + 5, none⟩), .slice pt nt ct, x2, undef], defers := [] }
theorem loop_walk {a : Int} {nm : By} {ix v th el : Tr} (hv : CmE v) (hnv : IsNd v) (ht : CmB th) (S : Nat → Prop) (w : World) (P b o : Nat) (vi vv : Option Addr) (vt ve : Value) (h : StM S w b o 5 a nm ix v th el vi vv vt ve) : Calls Tryz.prog 137 #[ptr P, .pointer (some ⟨b, o, none⟩)] w (CsP P (st 5 a nm ix v th el) w) := by
 obtain ⟨qv, hqv⟩ := q_ hnv h.v
 injection hqv with hqv
 subst hqv
 obtain ⟨⟨cs, h1, _, _, _, k4, k5, _⟩, _, hxv, ⟨nt, ts, h5, h6⟩, _⟩ := h
 obtain ⟨pt, ct, rfl⟩ := slice_form h5
 have hb1 : b < w.heap.size := (Array.getElem?_eq_some_iff.1 h1).1
 obtain ⟨W0, hW0⟩ : ∃ W0, W0 = w.alloc (.cells #[ptr P] 57) := ⟨_, rfl⟩
 have hB0 : Below w.heap.size w W0 := by rw [hW0]; exact qm _ _
 have g0 : W0.heap[w.heap.size]? = some (.cells #[ptr P] 57) := by rw [hW0]; exact heap_alloc_last _ _
 have HG0 : Hid (W0.heap[w.heap.size]? = some (.cells #[ptr P] 57) ∧ Below w.heap.size w W0) := ⟨g0, hB0⟩
 have HK : Hid (∀ W, Below W0.heap.size W0 W → W.cell? ⟨w.heap.size, 0, none⟩ = some (ptr P) ∧ W.cell? ⟨b, o + 4, none⟩ = some (ptr qv) ∧ W.cell? ⟨b, o + 5, none⟩ = some (.slice pt nt ct)) := fun W hb => by
  have hB := zx hb (zx hB0 h1)
  exact ⟨z_ (i := 0) (zx hb g0) rfl, z_ hB k4, z_ hB k5⟩
 have HC1 : Hid (∀ W, Below W0.heap.size W0 W → Calls Tryz.prog 138 #[ptr P, ptr qv] W (PtP (QE P v) W)) := fun W hb => (hv S W P _ (zD hb (zD hB0 hxv))).mono fun e w' h => ptE h
 have HC2 : Hid (∀ W, Below W0.heap.size W0 W → Calls Tryz.prog 53 #[ptr P, .slice pt nt ct] W (PtP (QB P th) W)) := fun W hb => (ht S W P _ nt ts ((h5.kept (qa hB0) (by decide)).kept (qa hb) (by decide)) (StAt.kept (qa hb) _ _ (StAt.kept (qa hB0) _ _ h6))).mono fun e w' h => ptB h
 have HQ1 : Hid (Stb (QE P v)) := stbE P v
 have HQ2 : Hid (Stb (QB P th)) := stbB P th
 have hmf := mkf
 clear h1 k4 k5 hv hnv g0 hB0 hxv ht h5 h6
 go_enter Tryz.func137, Tryz.ntmps137
 go_upto_region 1 with fail
 rw [← hW0]
 clear hW0
 go_cut [5, 6] (fun v5 v6 wx => ∃ b5 b6 x1 x2, v5 = ptr b5 ∧ v6 = ptr b6 ∧ Hid (wx.heap[b5]? = some (.cells #[x1] 245) ∧ wx.heap[b6]? = some (.cells #[x2] 67) ∧ QE P v wx x1 ∧ QB P th wx x2 ∧ Below W0.heap.size W0 wx))
 case first =>
  refine wp_region_held_drew (S := fun w' => w'.cell? ⟨w.heap.size, 0, none⟩ = some (ptr P) ∧ w'.cell? ⟨b, o + 4, none⟩ = some (ptr qv) ∧ w'.cell? ⟨b, o + 5, none⟩ = some (.slice pt nt ct)) (by kernel_rfl) ?_ (fun hHeld => ?_)
  ·exact HK.out _ (Below.refl _ _).drew
  refine wpAnyH_take (i := 0) (v := ?val0) rfl (by kernel_rfl) (by kernel_rfl) (by kernel_rfl) (fun _ _ _ h => h) (Or.inl ⟨by rfl, ?hy0⟩) hHeld ?go0
  case hy0 => (intro w hSw; (try dsimp only at hSw); go_simp; try rfl)
  case go0 =>
  simp only [Act.put, List.setIfInBounds_toArray, List.set_cons_zero, List.set_cons_succ, List.getElem_toArray, List.getElem_cons_zero, List.getElem_cons_succ]
  refine wpAnyH_take (i := 1) (v := ?val1) rfl (by kernel_rfl) (by kernel_rfl) (by kernel_rfl) (fun _ _ _ h => h) (Or.inl ⟨by rfl, ?hy1⟩) hHeld ?go1
  case hy1 => (intro w hSw; (try dsimp only at hSw); go_simp; try rfl)
  case go1 =>
  simp only [Act.put, List.setIfInBounds_toArray, List.set_cons_zero, List.set_cons_succ, List.getElem_toArray, List.getElem_cons_zero, List.getElem_cons_succ]
  refine wpAnyH_take (i := 2) (v := ?val2) rfl (by kernel_rfl) (by kernel_rfl) (by kernel_rfl) (fun _ _ _ h => h) (Or.inl ⟨by rfl, ?hy2⟩) hHeld ?go2
  case hy2 => (intro w hSw; (try dsimp only at hSw); go_simp; try rfl)
  case go2 =>
  simp only [Act.put, List.setIfInBounds_toArray, List.set_cons_zero, List.set_cons_succ, List.getElem_toArray, List.getElem_cons_zero, List.getElem_cons_succ]
  refine wpAnyH_take (i := 3) (v := ?val3) rfl (by kernel_rfl) (by kernel_rfl) (by kernel_rfl) (fun _ _ _ h => h) (Or.inl ⟨by rfl, ?hy3⟩) hHeld ?go3
  case hy3 => (intro w hSw; (try dsimp only at hSw); go_simp; try rfl)
  case go3 =>
  simp only [Act.put, List.setIfInBounds_toArray, List.set_cons_zero, List.set_cons_succ, List.getElem_toArray, List.getElem_cons_zero, List.getElem_cons_succ]
  refine wpAnyH_take (i := 4) (v := ?val4) rfl (by kernel_rfl) (by kernel_rfl) (by kernel_rfl) (fun _ _ _ h => h) (Or.inl ⟨by rfl, ?hy4⟩) hHeld ?go4
  case hy4 => (intro w hSw; (try dsimp only at hSw); go_simp; try rfl)
  case go4 =>
  simp only [Act.put, List.setIfInBounds_toArray, List.set_cons_zero, List.set_cons_succ, List.getElem_toArray, List.getElem_cons_zero, List.getElem_cons_succ]
  refine wpAnyH_take (i := 6) (v := ?val6) rfl (by kernel_rfl) (by kernel_rfl) (by kernel_rfl) (fun _ _ _ h => h) (Or.inl ⟨by rfl, ?hy6⟩) hHeld ?go6
  case hy6 => (intro w hSw; (try dsimp only at hSw); go_simp; try rfl)
  case go6 =>
  simp only [Act.put, List.setIfInBounds_toArray, List.set_cons_zero, List.set_cons_succ, List.getElem_toArray, List.getElem_cons_zero, List.getElem_cons_succ]
  refine wpAnyH_take (i := 7) (v := ?val7) rfl (by kernel_rfl) (by kernel_rfl) (by kernel_rfl) (fun _ _ _ h => h) (Or.inl ⟨by rfl, ?hy7⟩) hHeld ?go7
  case hy7 => (intro w hSw; (try dsimp only at hSw); go_simp; try rfl)
  case go7 =>
  simp only [Act.put, List.setIfInBounds_toArray, List.set_cons_zero, List.set_cons_succ, List.getElem_toArray, List.getElem_cons_zero, List.getElem_cons_succ]
  refine wpAnyH_take (i := 8) (v := ?val8) rfl (by kernel_rfl) (by kernel_rfl) (by kernel_rfl) (fun _ _ _ h => h) (Or.inl ⟨by rfl, ?hy8⟩) hHeld ?go8
  case hy8 => (intro w hSw; (try dsimp only at hSw); go_simp; try rfl)
  case go8 =>
  simp only [Act.put, List.setIfInBounds_toArray, List.set_cons_zero, List.set_cons_succ, List.getElem_toArray, List.getElem_cons_zero, List.getElem_cons_succ]
  refine wpAnyH_take (i := 9) (v := ?val9) rfl (by kernel_rfl) (by kernel_rfl) (by kernel_rfl) (fun _ _ _ h => h) (Or.inl ⟨by rfl, ?hy9⟩) hHeld ?go9
  case hy9 => (intro w hSw; (try dsimp only at hSw); go_simp; try rfl)
  case go9 =>
  simp only [Act.put, List.setIfInBounds_toArray, List.set_cons_zero, List.set_cons_succ, List.getElem_toArray, List.getElem_cons_zero, List.getElem_cons_succ]
  refine wpAnyH_take (i := 10) (v := ?val10) rfl (by kernel_rfl) (by kernel_rfl) (by kernel_rfl) (fun _ _ _ h => h) (Or.inl ⟨by rfl, ?hy10⟩) hHeld ?go10
  case hy10 => (intro w hSw; (try dsimp only at hSw); go_simp; try rfl)
  case go10 =>
  simp only [Act.put, List.setIfInBounds_toArray, List.set_cons_zero, List.set_cons_succ, List.getElem_toArray, List.getElem_cons_zero, List.getElem_cons_succ]
  refine wpAnyH_meet (stop := lst16 true true true true) (n := 2) (I := fun listed a' w' => ∃ c1 c2 a1 a2 x1 x2 x5 x6, listed = lst16 c1 c2 a1 a2 ∧ a' = frLoop P b o qv nt ct w.heap.size pt x1 x2 x5 x6 ∧ Ch2 W0 (QE P v) (QB P th) 245 67 c1 c2 a1 a2 x1 x2 x5 x6 w') rfl ?step ?stop ?cnt _ _ _ _ ⟨false, false, false, false, undef, undef, undef, undef, by kernel_rfl, rfl, ?beg⟩ (by kernel_rfl) (by first | omega | decide)
  case beg => exact ⟨(Below.refl _ _).drew, fun e => (by cases e), fun e => (by cases e), fun e => (by cases e), fun e => (by cases e), fun e => (by cases e), fun e => (by cases e)⟩
  case cnt =>
   rintro listed a' w' ⟨c1, c2, a1, a2, x1, x2, x5, x6, rfl, _, _⟩ hc
   revert hc
   cases c1 <;> cases c2 <;> cases a1 <;> cases a2 <;> first | exact fun _ => rfl | exact fun h => absurd h (by decide)
  case step =>
   rintro listed a' w' ⟨c1, c2, a1, a2, x1, x2, x5, x6, rfl, rfl, hI⟩ hs
   refine ⟨?_, fun i hi => ?_⟩
   ·have o2 := hI.o2
    clear hI
    revert hs o2
    cases c1 <;> cases c2 <;> cases a1 <;> cases a2 <;> first | exact fun _ _ => by decide +kernel | exact fun h _ => absurd rfl h | exact fun _ h => absurd (h rfl) (by decide)
   ·obtain ⟨h0, o', ho', -⟩ := mem_ready.1 hi
    have h24 : i < 16 := (Array.getElem?_eq_some_iff.1 ho').1
    clear ho' o'
    have hcs : i = 5 ∨ i = 11 ∨ i = 12 ∨ i = 13 ∨ i = 14 ∨ i = 15 := by
     have hd : ∀ j : Fin 16, (j.val = 5 ∨ j.val = 11 ∨ j.val = 12 ∨ j.val = 13 ∨ j.val = 14 ∨ j.val = 15) ∨ (lst16 c1 c2 a1 a2).getD j.val true = true := by
      cases c1 <;> cases c2 <;> cases a1 <;> cases a2 <;> decide +kernel
     rcases hd ⟨i, h24⟩ with h | h
     ·exact h
     ·rw [h0] at h; cases h
    clear h24 h0
    rcases hcs with rfl | rfl | rfl | rfl | rfl | rfl
    ·refine wpOp_step (o := { dst := some 12, op := Op.call { callee := Callee.value (Operand.func 138), args := #[Operand.tmp 7, Operand.tmp 11], argTypes := #[57, 145] }, type := 245, pos := "stmt.go:68", after := #[{ on := 0, ground := Ground.data }, { on := 4, ground := Ground.data }], guard := none }) rfl (fun K hK => ?_)
     go_simp
     refine (HC1.out w' hI.bel).mono ?_
     rintro e w1 ⟨k1, cp1, rfl, hcl, hb1⟩
     have hI2 := hI.call1 HQ1.out HQ2.out hb1 (u := .func (.func k1) #[] cp1) hcl
     exact hK _ _ ⟨HK.out _ hI2.bel, true, c2, a1, a2, _, x2, x5, x6, rfl, rfl, hI2⟩
    ·have q1 : c1 = true := (z8 hi (o := { dst := some 18, op := Op.call { callee := Callee.value (Operand.func 53), args := #[Operand.tmp 13, Operand.tmp 17], argTypes := #[57, 84] }, type := 67, pos := "stmt.go:68", after := #[{ on := 6, ground := Ground.data }, { on := 10, ground := Ground.data }, { on := 5, ground := Ground.chain }], guard := none }) rfl).2 ⟨5, .chain⟩ (by simp) rfl
     refine wpOp_step (o := { dst := some 18, op := Op.call { callee := Callee.value (Operand.func 53), args := #[Operand.tmp 13, Operand.tmp 17], argTypes := #[57, 84] }, type := 67, pos := "stmt.go:68", after := #[{ on := 6, ground := Ground.data }, { on := 10, ground := Ground.data }, { on := 5, ground := Ground.chain }], guard := none }) rfl (fun K hK => ?_)
     go_simp
     refine (HC2.out w' hI.bel).mono ?_
     rintro e w1 ⟨k1, cp1, rfl, hcl, hb1⟩
     have hI2 := hI.call2 HQ1.out HQ2.out q1 hb1 (u := .func (.func k1) #[] cp1) hcl
     exact hK _ _ ⟨HK.out _ hI2.bel, c1, true, a1, a2, x1, _, x5, x6, rfl, rfl, hI2⟩
    ·refine wpOp_step (o := { dst := some 5, op := Op.alloc 245, type := 0, pos := "stmt.go:68", after := #[], guard := none }) rfl (fun K hK => ?_)
     go_simp
     have hI2 := hI.new1 HQ1.out HQ2.out
     exact hK _ _ ⟨HK.out _ hI2.bel, c1, c2, true, a2, x1, x2, _, x6, rfl, rfl, hI2⟩
    ·refine wpOp_step (o := { dst := some 6, op := Op.alloc 67, type := 0, pos := "stmt.go:68", after := #[], guard := none }) rfl (fun K hK => ?_)
     go_simp
     have hI2 := hI.new2 HQ1.out HQ2.out
     exact hK _ _ ⟨HK.out _ hI2.bel, c1, c2, a1, true, x1, x2, x5, _, rfl, rfl, hI2⟩
    ·exfalso
     have ra := (z8 hi (o := { dst := none, op := Op.store 245 (Operand.tmp 5) (Operand.tmp 12), type := 0, pos := "stmt.go:68", after := #[{ on := 12, ground := Ground.data }, { on := 5, ground := Ground.data }, { on := 11, ground := Ground.chain }, { on := 0, ground := Ground.phase }, { on := 1, ground := Ground.phase }, { on := 2, ground := Ground.phase }, { on := 3, ground := Ground.phase }, { on := 4, ground := Ground.phase }, { on := 5, ground := Ground.phase }, { on := 6, ground := Ground.textOnly Departure.lateStores }, { on := 7, ground := Ground.textOnly Departure.lateStores }, { on := 8, ground := Ground.textOnly Departure.lateStores }, { on := 9, ground := Ground.textOnly Departure.lateStores }, { on := 10, ground := Ground.textOnly Departure.lateStores }, { on := 11, ground := Ground.textOnly Departure.lateStoresUnsure }, { on := 12, ground := Ground.phase }, { on := 13, ground := Ground.phase }], guard := none }) rfl).2
     have q2 : c2 = true := ra ⟨11, .chain⟩ (by simp) rfl
     have q1 : c1 = true := hI.o2 q2
     have r1 : a1 = true := ra ⟨12, .phase⟩ (by simp) rfl
     have r2 : a2 = true := ra ⟨13, .phase⟩ (by simp) rfl
     subst q1 q2 r1 r2
     exact hs rfl
    ·have q : false = true := (z8 hi (o := { dst := none, op := Op.store 67 (Operand.tmp 6) (Operand.tmp 18), type := 0, pos := "stmt.go:68", after := #[{ on := 13, ground := Ground.data }, { on := 11, ground := Ground.data }, { on := 14, ground := Ground.chain }, { on := 0, ground := Ground.phase }, { on := 1, ground := Ground.phase }, { on := 2, ground := Ground.phase }, { on := 3, ground := Ground.phase }, { on := 4, ground := Ground.phase }, { on := 5, ground := Ground.phase }, { on := 6, ground := Ground.phase }, { on := 7, ground := Ground.phase }, { on := 8, ground := Ground.phase }, { on := 9, ground := Ground.phase }, { on := 10, ground := Ground.phase }, { on := 11, ground := Ground.phase }, { on := 12, ground := Ground.phase }, { on := 13, ground := Ground.phase }, { on := 14, ground := Ground.phase }], guard := none }) rfl).2 ⟨14, .chain⟩ (by simp) rfl
     cases q
  case stop =>
   rintro a' w' ⟨c1, c2, a1, a2, x1, x2, x5, x6, hl, rfl, hI⟩
   have hl2 : c1 = true ∧ c2 = true ∧ a1 = true ∧ a2 = true := by
    simp only [lst16, Array.mk.injEq, List.cons.injEq, true_and, and_true] at hl
    exact ⟨hl.1.symm, hl.2.1.symm, hl.2.2.1.symm, hl.2.2.2.symm⟩
   obtain ⟨rfl, rfl, rfl, rfl⟩ := hl2
   obtain ⟨k1, cp1, rfl⟩ := HQ1.out.2 _ _ (hI.e1 rfl)
   obtain ⟨k2, cp2, rfl⟩ := HQ2.out.2 _ _ (hI.e2 rfl)
   obtain ⟨b5, rfl, l5, g5⟩ := hI.b1 rfl
   obtain ⟨b6, rfl, l6, g6⟩ := hI.b2 rfl
   have n56 : b5 ≠ b6 := fun e => hI.ne rfl rfl (by rw [e])
   have z5 : w'.cell? ⟨b5, 0, none⟩ = some .nilFunc := z_ (i := 0) g5 rfl
   have z6 : w'.cell? ⟨b6, 0, none⟩ = some .nilFunc := z_ (i := 0) g6 rfl
   have y5 : w'.frozen? ⟨b5, 0, none⟩ = false := by simp [World.frozen?, g5]
   have y6 : w'.frozen? ⟨b6, 0, none⟩ = false := by simp [World.frozen?, g6]
   have HF : Hid (_ ∧ _ ∧ _ ∧ _ ∧ _) := hI.stored HQ1.out HQ2.out (.inl rfl) (by decide)
   have HBl : Hid (Below W0.heap.size W0 w') := hI.bel
   clear hI hl g5 g6
   refine wpAnyH_ready (rs := [14]) (by kernel_rfl) (by simp) ?_
   refine AllReadyH.cons (o := { dst := none, op := Op.store 245 (Operand.tmp 5) (Operand.tmp 12), type := 0, pos := "stmt.go:68", after := #[{ on := 12, ground := Ground.data }, { on := 5, ground := Ground.data }, { on := 11, ground := Ground.chain }, { on := 0, ground := Ground.phase }, { on := 1, ground := Ground.phase }, { on := 2, ground := Ground.phase }, { on := 3, ground := Ground.phase }, { on := 4, ground := Ground.phase }, { on := 5, ground := Ground.phase }, { on := 6, ground := Ground.textOnly Departure.lateStores }, { on := 7, ground := Ground.textOnly Departure.lateStores }, { on := 8, ground := Ground.textOnly Departure.lateStores }, { on := 9, ground := Ground.textOnly Departure.lateStores }, { on := 10, ground := Ground.textOnly Departure.lateStores }, { on := 11, ground := Ground.textOnly Departure.lateStoresUnsure }, { on := 12, ground := Ground.phase }, { on := 13, ground := Ground.phase }], guard := none }) rfl (fun K hK => ?_) AllReadyH.nil
   go_simp
   refine hK _ _ (HK.out _ (HBl.out.setCell (p := ⟨b5, 0, none⟩) l5 _)) (fun _ => ?_)
   clear hK K
   refine wpAnyH_ready (rs := [15]) (by kernel_rfl) (by simp) ?_
   refine AllReadyH.cons (o := { dst := none, op := Op.store 67 (Operand.tmp 6) (Operand.tmp 18), type := 0, pos := "stmt.go:68", after := #[{ on := 13, ground := Ground.data }, { on := 11, ground := Ground.data }, { on := 14, ground := Ground.chain }, { on := 0, ground := Ground.phase }, { on := 1, ground := Ground.phase }, { on := 2, ground := Ground.phase }, { on := 3, ground := Ground.phase }, { on := 4, ground := Ground.phase }, { on := 5, ground := Ground.phase }, { on := 6, ground := Ground.phase }, { on := 7, ground := Ground.phase }, { on := 8, ground := Ground.phase }, { on := 9, ground := Ground.phase }, { on := 10, ground := Ground.phase }, { on := 11, ground := Ground.phase }, { on := 12, ground := Ground.phase }, { on := 13, ground := Ground.phase }, { on := 14, ground := Ground.phase }], guard := none }) rfl (fun K hK => ?_) AllReadyH.nil
   go_simp
   refine hK _ _ (HK.out _ ((HBl.out.setCell (p := ⟨b5, 0, none⟩) l5 _).setCell (p := ⟨b6, 0, none⟩) l6 _)) (fun _ => ?_)
   clear hK K
   refine wpAnyH_done (by kernel_rfl) ?_ _
   go_wp2_with fail
   go_meet
   exact ⟨b5, b6, _, _, rfl, rfl, HF.out⟩
 case rest =>
  obtain ⟨b5, b6, x1, x2, rfl, rfl, HF⟩ := hcut
  go_wp2
  go_ret
  obtain ⟨f1, f2, f3, ⟨a1, p1, g1, t1, e1, f5, f6, f7, f8⟩, f9⟩ := HF.out
  obtain ⟨i1, i2⟩ := HG0.out
  refine ⟨_, _, rfl, ?_, i2.trans (f9.mono i2.size)⟩
  rw [ClB]
  exact ⟨_, [], rfl, by rw [ClB], .inr (.inr (.inl ⟨rfl, b5, b6, w.heap.size, x1, x2, a1, p1, g1, t1, rfl, f1, f2, zx f9 i1, f3.2, e1, f5, f6, f7, f8⟩))⟩
end Go.Proofs.YtnfhpdbbfejioaaGreatDoor
