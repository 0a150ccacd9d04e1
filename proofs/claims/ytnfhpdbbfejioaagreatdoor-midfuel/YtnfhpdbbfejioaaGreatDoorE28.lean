/- LH LI LJ -/
import Derived.Test.YtnfhpdbbfejioaaGreatDoorE27
namespace Go.Proofs.YtnfhpdbbfejioaaGreatDoor.Mid
set_option linter.unusedVariables false
set_option linter.unusedSimpArgs false
set_option maxRecDepth 100000
set_option maxHeartbeats 16000000
open Go Go.RowKit
def Zc (g : Nat) (W : World) : Prop := (W.cell? ⟨g, 0, none⟩ = some (.int .i64 0) ∧ W.cell? ⟨g, 1, none⟩ = some (.int .i64 0) ∧ W.cell? ⟨g, 2, none⟩ = some (.int .i64 0) ∧ W.cell? ⟨g, 3, none⟩ = some (.int .i64 0) ∧ W.cell? ⟨g, 4, none⟩ = some (.int .i64 0) ∧ W.cell? ⟨g, 5, none⟩ = some (.int .i64 0) ∧ W.cell? ⟨g, 6, none⟩ = some (.string ⟨#[]⟩) ∧ W.cell? ⟨g, 7, none⟩ = some (.int .i64 0) ∧ W.cell? ⟨g, 8, none⟩ = some (.string ⟨#[]⟩) ∧ W.cell? ⟨g, 9, none⟩ = some (.slice none 0 0)) ∧ ∀ i, W.frozen? ⟨g, i, none⟩ = false
def ReL (g : Nat) (W : World) (a0 a1 a2 a3 a4 a5 a6 a7 a8 a9 : Value) (G : Ending → World → Prop) : Prop :=
  Hid ((set10 W g a0 a1 a2 a3 a4 a5 a6 a7 a8 a9).heap[g]? = some (.cells #[a0, a1, a2, a3, a4, a5, a6, a7, a8, a9] 125)) ∧ Hid (G (.returned (.agg #[a0, a1, a2, a3, a4, a5, a6, a7, a8, a9])) (set10 W g a0 a1 a2 a3 a4 a5 a6 a7 a8 a9))
def LpP (P : Nat) (R : Nat → Nat) (mb : Nat) (w : World) (c d a b cc n : Int) (yo : ByteArray) (l : Int) (yn : ByteArray) (s' : Wr) (e : Ending) (w' : World) : Prop :=
  e = .returned (.agg #[.int .i64 c, .int .i64 d, .int .i64 a, .int .i64 b, .int .i64 cc, .int .i64 n, .string yo, .int .i64 l, .string yn, .slice none 0 0]) ∧ ∃ R', WrM R' w' P mb s' ∧ Lw P R R' w w'
theorem fin_p {R R' : Nat → Nat} {w W : World} {P mb : Nat} {s s' : Wr} (h : WrM R w P mb s) (hm : WrM R' W P mb s') (hl : Lw P R R' (w.alloc zst) W) (c d a b cc n l : Int) (yo yn : ByteArray) :
    (set10 W w.heap.size (.int .i64 c) (.int .i64 d) (.int .i64 a) (.int .i64 b) (.int .i64 cc) (.int .i64 n) (.string yo) (.int .i64 l) (.string yn) (.slice none 0 0)).heap[w.heap.size]? = some (.cells #[.int .i64 c, .int .i64 d, .int .i64 a, .int .i64 b, .int .i64 cc, .int .i64 n, .string yo, .int .i64 l, .string yn, .slice none 0 0] 125) ∧
    LpP P R mb w c d a b cc n yo l yn s' (.returned (.agg #[.int .i64 c, .int .i64 d, .int .i64 a, .int .i64 b, .int .i64 cc, .int .i64 n, .string yo, .int .i64 l, .string yn, .slice none 0 0])) (set10 W w.heap.size (.int .i64 c) (.int .i64 d) (.int .i64 a) (.int .i64 b) (.int .i64 cc) (.int .i64 n) (.string yo) (.int .i64 l) (.string yn) (.slice none 0 0)) := by
  obtain ⟨h1, qa, na, ca, h2, R2, h3, h4, h5⟩ := fin_step h hm hl c d a b cc n l yo yn [] none 0 0 (ArAt.none _ _)
  exact ⟨h1, rfl, R2, h3, h4⟩
theorem LpP.ls {P : Nat} {R : Nat → Nat} {mb : Nat} {w : World} {c d a b cc n l : Int} {yo yn : ByteArray} {s' : Wr} {e : Ending} {w' : World} (h : LpP P R mb w c d a b cc n yo l yn s' e w') : LsP P R mb w ⟨c, d, a, b, cc, n, yo.data.toList, l, yn.data.toList, []⟩ s' e w' := by
  obtain ⟨h1, R2, h2, h3⟩ := h
  have e1 : (⟨yo.data.toList.toArray⟩ : ByteArray) = yo := by rw [Array.toArray_toList]
  have e2 : (⟨yn.data.toList.toArray⟩ : ByteArray) = yn := by rw [Array.toArray_toList]
  refine ⟨none, 0, 0, ?_, R2, h2, h3, ArAt.none _ _⟩
  rw [h1]
theorem truthL_some {U : Tr → Nat → Lm Unit} {t : Tr} {s s' : Wr} {x : Ms} (h : truthL U t s = some (x, s')) : ∃ p s1 e s2 u3 s3 u4 s4 u5 s5 u6, take1 s = some (p, s1) ∧ qR s1 = some (e, s2) ∧ qU { ms0 with code := 1, dst := (p : Int) } s2 = some (u3, s3) ∧ U t e s3 = some (u4, s4) ∧ qU { ms0 with code := 1, dst := (p : Int), n := 1 } s4 = some (u5, s5) ∧ putL e s5 = some (u6, s') ∧ x = ⟨2, 0, (p : Int), 0, 0, 0, [], 0, [], []⟩ := by
  unfold truthL at h
  obtain ⟨p, s1, h1, h⟩ := zg h
  obtain ⟨e, s2, h2, h⟩ := zg h
  obtain ⟨u3, s3, h3, h⟩ := zg h
  obtain ⟨u4, s4, h4, h⟩ := zg h
  obtain ⟨u5, s5, h5, h⟩ := zg h
  obtain ⟨u6, s6, h6, h⟩ := zg h
  injection h with h
  injection h with h7 h8
  subst h8
  exact ⟨p, s1, e, s2, u3, s3, u4, s4, u5, s5, u6, h1, h2, h3, h4, h5, h6, h7.symm⟩
theorem truth_of {U : Tr → Nat → Lm Unit} (hU : UnC 215 U) {R : Nat → Nat} {w : World} {P mb : Nat} {s s' : Wr} {t : Tr} {b : Nat} {x : Ms} (h : WrM R w P mb s) (hx : ExAt (Lo (P - 1)) w t (ptr b)) (ho : truthL U t s = some (x, s')) :
    ∃ p : Nat, x = ⟨2, 0, (p : Int), 0, 0, 0, [], 0, [], []⟩ ∧ Calls Tryz.prog 253 #[ptr P, ptr b] w (LpP P R mb w 2 0 (p : Int) 0 0 0 ⟨#[]⟩ 0 ⟨#[]⟩ s') := by
  obtain ⟨p, s1, l, s2, u3, s3, u4, s4, u5, s5, u6, e1, e2, e3, e4, e5, e6, rfl⟩ := truthL_some ho
  refine ⟨p, rfl, ?_⟩
  obtain ⟨W1, hW1⟩ : ∃ W1, W1 = w.alloc zst := ⟨_, rfl⟩
  obtain ⟨hm1, hl1⟩ := h.al zst
  rw [← hW1] at hm1 hl1
  have HT : Hid (Calls Tryz.prog 213 #[ptr P, .int .i64 1] W1 (LnP P R mb W1 (p : Int) s1)) := take1_any hm1 e1
  have HX : Hid (∀ W, Below (P - 1) w W → ExAt (Lo (P - 1)) W t (ptr b)) := fun W hW => ex_on hx hW
  have HL1 : Hid (Lw P R R w W1) := hl1
  have HM0 : Hid (WrM R w P mb s) := h
  have HW1 : Hid (W1 = w.alloc zst) := hW1
  have hW1' : W1 = w.alloc (.cells #[.int .i64 0, .int .i64 0, .int .i64 0, .int .i64 0, .int .i64 0, .int .i64 0, .string ⟨#[]⟩, .int .i64 0, .string ⟨#[]⟩, .slice none 0 0] 125) := hW1
  obtain ⟨G, hG⟩ : ∃ G, G = LpP P R mb w 2 0 (p : Int) 0 0 0 ⟨#[]⟩ 0 ⟨#[]⟩ s' := ⟨_, rfl⟩
  have HG : Hid (G = LpP P R mb w 2 0 (p : Int) 0 0 0 ⟨#[]⟩ 0 ⟨#[]⟩ s') := hG
  rw [← hG]
  clear hm1 hl1 hG ho hW1 h hx
  go_enter Tryz.func253, Tryz.ntmps253
  go_wp2_with (go_at_call 213; fail)
  rw [← hW1']
  clear hW1'
  refine HT.out.mono ?_
  rintro e w2 ⟨rfl, R2, hm2, hl2⟩
  have HL2 : Hid (Lw P R R2 W1 w2) := hl2
  have HC : Hid (Calls Tryz.prog 214 #[ptr P] w2 (LnP P R2 mb w2 (l : Int) s2)) := label_any hm2 e2
  clear hm2 hl2
  go_wp2_with (go_at_call 214; fail)
  refine HC.out.mono ?_
  rintro e w3 ⟨rfl, R3, hm3, hl3⟩
  have HL3 : Hid (Lw P R R3 W1 w3) := HL2.out.trans hl3
  have HC3 : Hid (Calls Tryz.prog 70 #[ptr P, .agg #[.int .i64 1, .int .i64 (p : Int), .int .i64 0, .int .i64 0, .int .i64 0, .int .i64 0, .string ⟨#[]⟩, .int .i64 0, .string ⟨#[]⟩, .slice none 0 0]] w3 (LuP P R3 mb w3 s3)) := add_y 1 (p : Int) 0 0 0 0 ⟨#[]⟩ 0 ⟨#[]⟩ [] none 0 0 hm3 (ArAt.none _ _) e3
  clear hm3 hl3 HC
  go_wp2_with (go_at_call 70; fail)
  refine HC3.out.mono ?_
  rintro e w4 ⟨rfl, R4, hm4, hl4⟩
  have HL4 : Hid (Lw P R R4 W1 w4) := HL3.out.trans hl4
  have HC4 : Hid (Calls Tryz.prog 215 #[ptr P, ptr b, .int .i64 (l : Int)] w4 (LuP P R4 mb w4 s4)) := hU R4 w4 P mb s3 s4 t (ptr b) l u4 hm4 (HX.out w4 (HL1.out.trans HL4.out).bel) e4
  clear hm4 hl4 HC3
  go_wp2_with (go_at_call 215; fail)
  refine HC4.out.mono ?_
  rintro e w5 ⟨rfl, R5, hm5, hl5⟩
  have HL5 : Hid (Lw P R R5 W1 w5) := HL4.out.trans hl5
  have HC5 : Hid (Calls Tryz.prog 70 #[ptr P, .agg #[.int .i64 1, .int .i64 (p : Int), .int .i64 0, .int .i64 0, .int .i64 0, .int .i64 1, .string ⟨#[]⟩, .int .i64 0, .string ⟨#[]⟩, .slice none 0 0]] w5 (LuP P R5 mb w5 s5)) := add_y 1 (p : Int) 0 0 0 1 ⟨#[]⟩ 0 ⟨#[]⟩ [] none 0 0 hm5 (ArAt.none _ _) e5
  clear hm5 hl5 HC4
  go_wp2_with (go_at_call 70; fail)
  refine HC5.out.mono ?_
  rintro e w6 ⟨rfl, R6, hm6, hl6⟩
  have HL6 : Hid (Lw P R R6 W1 w6) := HL5.out.trans hl6
  have HC6 : Hid (Calls Tryz.prog 216 #[ptr P, .int .i64 (l : Int)] w6 (LuP P R6 mb w6 s')) := put_any hm6 e6
  clear hm6 hl6 HC5
  go_wp2_with (go_at_call 216; fail)
  refine HC6.out.mono ?_
  rintro e w7 ⟨rfl, R7, hm7, hl7⟩
  have hl17 : Lw P R R7 (w.alloc zst) w7 := HW1.out ▸ HL6.out.trans hl7
  obtain ⟨⟨z0, z1, z2, z3, z4, z5, z6, z7, z8, z9⟩, zf⟩ := zcells HM0.out hl17
  have f0 := zf 0; have f1 := zf 1; have f2 := zf 2; have f3 := zf 3; have f4 := zf 4; have f5 := zf 5; have f6 := zf 6; have f7 := zf 7; have f8 := zf 8; have f9 := zf 9
  obtain ⟨r1, r2⟩ := fin_p HM0.out hm7 hl17 2 0 (p : Int) 0 0 0 0 ⟨#[]⟩ ⟨#[]⟩
  have HR : Hid (_ = _) := r1
  have HE2 : Hid (G _ _) := HG.out ▸ r2
  clear hm7 hl7 hl17 r1 r2 zf HC6
  go_wp2
  refine bodyPost_ret (qQ Tryz.results253 _ _ w.heap.size _ _ _ _ _ _ _ _ _ _ rfl HR.out) rfl ?_
  exact HE2.out
theorem twoL_some {F : Lf} {t : Tr} {op : By} {l r : Tr} {s s' : Wr} {x : Ms} (h : twoL F t op l r s = some (x, s')) : ((op = [38, 38] ∨ op = [124, 124]) ∧ truthL F.U t s = some (x, s')) ∨ (¬ (op = [38, 38] ∨ op = [124, 124]) ∧ ∃ p s1 q, F.V l s = some (p, s1) ∧ F.V r s1 = some (q, s') ∧ x = ⟨3, 0, (p : Int), (q : Int), 0, 0, op, 0, [], []⟩) := by
  unfold twoL at h
  split at h
  · rename_i hc; exact .inl ⟨hc, h⟩
  · rename_i hc
    obtain ⟨p, s1, h1, h⟩ := zg h
    obtain ⟨q, s2, h2, h⟩ := zg h
    injection h with h
    injection h with h3 h4
    subst h4
    exact .inr ⟨hc, p, s1, q, h1, h2, h3.symm⟩
theorem two_of {F : Lf} (hV : VaC F.V) (hU : UnC 215 F.U) {R : Nat → Nat} {w : World} {P mb : Nat} {s s' : Wr} {k1 k2 k3 : IntKind} {c a n : Int} {nm op : By} {l r g : Tr} {v : Value} {x : Ms} (h : WrM R w P mb s) (hx : ExAt (Lo (P - 1)) w (ndk k1 k2 k3 c a n nm op l r g) v) (ho : twoL F (ndk k1 k2 k3 c a n nm op l r g) op l r s = some (x, s')) :
    ∃ (xc xa xb : Int) (yo : ByteArray), x = ⟨xc, 0, xa, xb, 0, 0, yo.data.toList, 0, [], []⟩ ∧ Calls Tryz.prog 240 #[ptr P, v] w (LpP P R mb w xc 0 xa xb 0 0 yo 0 ⟨#[]⟩ s') := by
  have HX : Hid (ExAt (Lo (P - 1)) w (ndk k1 k2 k3 c a n nm op l r g) v) := hx
  obtain ⟨b, vl, vr, vg, ys, hb, rfl, hw, hbo⟩ := ndx hx
  obtain ⟨W1, hW1⟩ : ∃ W1, W1 = w.alloc zst := ⟨_, rfl⟩
  obtain ⟨hm1, hl1⟩ := h.al zst
  rw [← hW1] at hm1 hl1
  obtain ⟨hN1, hX1, -⟩ := hw W1 hl1.bel
  have c4 := hN1.c4
  have c5 := hN1.c5
  obtain ⟨yo, hyo⟩ : ∃ y : ByteArray, y = ⟨op.toArray⟩ := ⟨_, rfl⟩
  have hyl : yo.toList = op := by rw [hyo, op_tl]
  have hyd : yo.data.toList = op := by rw [hyo]
  rw [← hyo] at c4
  have HW : Hid (∀ W, Below (P - 1) w W → NdW W b c a n ⟨nm.toArray⟩ yo vl vr vg ∧ ExAt (Lo (P - 1)) W r vr) := fun W hW => by rw [hyo]; exact ⟨(hw W hW).1, (hw W hW).2.2.1⟩
  have HL1 : Hid (Lw P R R w W1) := hl1
  have HM0 : Hid (WrM R w P mb s) := h
  have HW1 : Hid (W1 = w.alloc zst) := hW1
  have hW1' : W1 = w.alloc (.cells #[.int .i64 0, .int .i64 0, .int .i64 0, .int .i64 0, .int .i64 0, .int .i64 0, .string ⟨#[]⟩, .int .i64 0, .string ⟨#[]⟩, .slice none 0 0] 125) := hW1
  rcases twoL_some ho with ⟨hop, e1⟩ | ⟨hop, p, s1, q, e1, e2, rfl⟩
  · obtain ⟨p, rfl, hC⟩ := truth_of hU hm1 (ex_on hx hl1.bel) e1
    refine ⟨2, (p : Int), 0, ⟨#[]⟩, rfl, ?_⟩
    have HC : Hid (Calls Tryz.prog 253 #[ptr P, ptr b] W1 (LpP P R mb W1 2 0 (p : Int) 0 0 0 ⟨#[]⟩ 0 ⟨#[]⟩ s')) := hC
    obtain ⟨G, hG⟩ : ∃ G, G = LpP P R mb w 2 0 (p : Int) 0 0 0 ⟨#[]⟩ 0 ⟨#[]⟩ s' := ⟨_, rfl⟩
    have HG : Hid (G = LpP P R mb w 2 0 (p : Int) 0 0 0 ⟨#[]⟩ 0 ⟨#[]⟩ s') := hG
    rw [← hG]
    rw [hW1'] at c4
    have HEnd : Hid (∀ w2 R2, WrM R2 w2 P mb s' → Lw P R R2 W1 w2 → Zc w.heap.size w2 ∧ ReL w.heap.size w2 (.int .i64 2) (.int .i64 0) (.int .i64 (p : Int)) (.int .i64 0) (.int .i64 0) (.int .i64 0) (.string ⟨#[]⟩) (.int .i64 0) (.string ⟨#[]⟩) (.slice none 0 0) G) := fun w2 R2 hm hl => by
      have hl17 : Lw P R R2 (w.alloc zst) w2 := HW1.out ▸ hl
      obtain ⟨r1, r2⟩ := fin_p HM0.out hm hl17 2 0 (p : Int) 0 0 0 0 ⟨#[]⟩ ⟨#[]⟩
      exact ⟨zcells HM0.out hl17, r1, by show G _ _; rw [HG.out]; exact r2⟩
    clear hw hx HX hbo hm1 hl1 hN1 hX1 hG ho h hyo hyd e1 hW1 hC c5
    rcases hop with hop | hop
    · have t1 : (yo.toList == [38, 38]) = true := by rw [hyl, hop]; rfl
      clear hyl hop
      go_enter Tryz.func240, Tryz.ntmps240
      go_wp2_with (go_at_call 253; fail)
      rw [← hW1']
      clear hW1' c4
      refine HC.out.mono ?_
      rintro e w2 ⟨rfl, R2, hm2, hl2⟩
      obtain ⟨⟨⟨z0, z1, z2, z3, z4, z5, z6, z7, z8, z9⟩, zf⟩, HR, HE2⟩ := HEnd.out w2 R2 hm2 hl2
      have f0 := zf 0; have f1 := zf 1; have f2 := zf 2; have f3 := zf 3; have f4 := zf 4; have f5 := zf 5; have f6 := zf 6; have f7 := zf 7; have f8 := zf 8; have f9 := zf 9
      clear hm2 hl2 zf
      go_wp2
      refine bodyPost_ret (qQ Tryz.results240 _ _ w.heap.size _ _ _ _ _ _ _ _ _ _ rfl HR.out) rfl ?_
      exact HE2.out
    · have t1 : (yo.toList == [38, 38]) = false := by rw [hyl, hop]; rfl
      have t2 : (yo.toList == [124, 124]) = true := by rw [hyl, hop]; rfl
      clear hyl hop
      go_enter Tryz.func240, Tryz.ntmps240
      go_wp2_with (go_at_call 253; fail)
      rw [← hW1']
      clear hW1' c4
      refine HC.out.mono ?_
      rintro e w2 ⟨rfl, R2, hm2, hl2⟩
      obtain ⟨⟨⟨z0, z1, z2, z3, z4, z5, z6, z7, z8, z9⟩, zf⟩, HR, HE2⟩ := HEnd.out w2 R2 hm2 hl2
      have f0 := zf 0; have f1 := zf 1; have f2 := zf 2; have f3 := zf 3; have f4 := zf 4; have f5 := zf 5; have f6 := zf 6; have f7 := zf 7; have f8 := zf 8; have f9 := zf 9
      clear hm2 hl2 zf
      go_wp2
      refine bodyPost_ret (qQ Tryz.results240 _ _ w.heap.size _ _ _ _ _ _ _ _ _ _ rfl HR.out) rfl ?_
      exact HE2.out
  · refine ⟨3, (p : Int), (q : Int), yo, by rw [hyd], ?_⟩
    have t1 : (yo.toList == [38, 38]) = false := by rw [hyl]; simp; exact fun e => hop (.inl e)
    have t2 : (yo.toList == [124, 124]) = false := by rw [hyl]; simp; exact fun e => hop (.inr e)
    have HVl : Hid (Calls Tryz.prog 163 #[ptr P, vl] W1 (LnP P R mb W1 (p : Int) s1)) := hV R W1 P mb s s1 l vl p hm1 hX1 e1
    obtain ⟨G, hG⟩ : ∃ G, G = LpP P R mb w 3 0 (p : Int) (q : Int) 0 0 yo 0 ⟨#[]⟩ s' := ⟨_, rfl⟩
    have HG : Hid (G = LpP P R mb w 3 0 (p : Int) (q : Int) 0 0 yo 0 ⟨#[]⟩ s') := hG
    rw [← hG]
    rw [hW1'] at c4 c5
    clear hw hx HX hbo hm1 hl1 hN1 hX1 hG ho h hyo hyd e1 hW1 hyl hop
    go_enter Tryz.func240, Tryz.ntmps240
    go_wp2_with (go_at_call 163; fail)
    rw [← hW1']
    clear hW1' c4 c5
    refine HVl.out.mono ?_
    rintro e w2 ⟨rfl, R2, hm2, hl2⟩
    obtain ⟨hN2, hX2⟩ := HW.out w2 (HL1.out.trans hl2).bel
    have c4 := hN2.c4
    have c6 := hN2.c6
    have HL2 : Hid (Lw P R R2 W1 w2) := hl2
    have HVr : Hid (Calls Tryz.prog 163 #[ptr P, vr] w2.drew (LnP P R2 mb w2.drew (q : Int) s')) := hV R2 w2.drew P mb s1 s' r vr q (hm2.on (fun _ _ => rfl) (zl _ _)) (ex_on hX2 (zl _ _)) e2
    clear hm2 hl2 hN2 hX2
    go_wp2_with fail
    go_region_with (go_at_call 163; refine HVr.out.mono ?_; rintro e w3 ⟨rfl, R3, hm3, hl3⟩; have hl13 : Lw P R R3 (w.alloc zst) w3 := (HW1.out ▸ (HL2.out.trans ⟨zl _ _, fun _ _ => rfl, fun _ _ _ => rfl⟩).trans hl3); have d4 := (HW.out w3 (HL1.out.trans (HW1.out ▸ hl13)).bel).1.c4; obtain ⟨⟨z0, z1, z2, z3, z4, z5, z6, z7, z8, z9⟩, zf⟩ := zcells HM0.out hl13; have f0 := zf 0; have f1 := zf 1; have f2 := zf 2; have f3 := zf 3; have f4 := zf 4; have f5 := zf 5; have f6 := zf 6; have f7 := zf 7; have f8 := zf 8; have f9 := zf 9; obtain ⟨r1, r2⟩ := fin_p HM0.out hm3 hl13 3 0 (p : Int) (q : Int) 0 0 0 yo ⟨#[]⟩; have HR : Hid (_ = _) := r1; have HE2 : Hid (G _ _) := HG.out ▸ r2; clear hm3 hl3 hl13 r1 r2 zf)
    all_goals
      go_wp2
      refine bodyPost_ret (qQ Tryz.results240 _ _ w.heap.size _ _ _ _ _ _ _ _ _ _ rfl HR.out) rfl ?_
      exact HE2.out
theorem last_end {R R' : Nat → Nat} {w W : World} {P mb : Nat} {s s' : Wr} (h : WrM R w P mb s) (hm : WrM R' W P mb s') (hl : Lw P R R' (w.alloc zst) W) (c d a b cc n l : Int) (yo yn : ByteArray) (args : List Int) (qa : Option Addr) (na ca : Nat) (har : ArAt R' W (.slice qa na ca) args) {G : Ending → World → Prop} (hG : G = LsP P R mb w ⟨c, d, a, b, cc, n, yo.data.toList, l, yn.data.toList, args⟩ s') :
    Zc w.heap.size W ∧ ReL w.heap.size W (.int .i64 c) (.int .i64 d) (.int .i64 a) (.int .i64 b) (.int .i64 cc) (.int .i64 n) (.string yo) (.int .i64 l) (.string yn) (.slice qa na ca) G := by
  obtain ⟨r1, r2⟩ := fin_step h hm hl c d a b cc n l yo yn args qa na ca har
  exact ⟨zcells h hl, r1, by show G _ _; rw [hG]; exact r2⟩
theorem last_new {R : Nat → Nat} {w : World} {P mb : Nat} {s : Wr} (h : WrM R w P mb s) (c a n : Int) {G : Ending → World → Prop} (hG : G = LsP P R mb w ⟨c, 0, a, 0, 0, n, [], 0, [], []⟩ s) :
    Hid ((w.alloc (.cells #[.int .i64 c, .int .i64 0, .int .i64 a, .int .i64 0, .int .i64 0, .int .i64 n, .string ⟨#[]⟩, .int .i64 0, .string ⟨#[]⟩, .slice none 0 0] 125)).heap[w.heap.size]? = some (.cells #[.int .i64 c, .int .i64 0, .int .i64 a, .int .i64 0, .int .i64 0, .int .i64 n, .string ⟨#[]⟩, .int .i64 0, .string ⟨#[]⟩, .slice none 0 0] 125)) ∧ Hid (G (.returned (.agg #[.int .i64 c, .int .i64 0, .int .i64 a, .int .i64 0, .int .i64 0, .int .i64 n, .string ⟨#[]⟩, .int .i64 0, .string ⟨#[]⟩, .slice none 0 0])) (w.alloc (.cells #[.int .i64 c, .int .i64 0, .int .i64 a, .int .i64 0, .int .i64 0, .int .i64 n, .string ⟨#[]⟩, .int .i64 0, .string ⟨#[]⟩, .slice none 0 0] 125))) := by
  refine ⟨heap_alloc_last w _, ?_⟩
  show G _ _
  rw [hG]
  obtain ⟨h1, h2⟩ := h.al (.cells #[.int .i64 c, .int .i64 0, .int .i64 a, .int .i64 0, .int .i64 0, .int .i64 n, .string ⟨#[]⟩, .int .i64 0, .string ⟨#[]⟩, .slice none 0 0] 125)
  exact ⟨none, 0, 0, rfl, R, h1, h2, ArAt.none _ _⟩
theorem last_num {R : Nat → Nat} {w : World} {P mb : Nat} {s : Wr} {k1 k2 k3 : IntKind} {c a n : Int} {nm op : By} {l r g : Tr} {v : Value} (h : WrM R w P mb s) (hx : ExAt (Lo (P - 1)) w (ndk k1 k2 k3 c a n nm op l r g) v) (h2 : c ≠ 2) (h3 : c ≠ 3) (h4 : c ≠ 4) (h5 : c ≠ 5) (h6 : c ≠ 6) (h7 : c ≠ 7) (h8 : c ≠ 8) (h9 : c ≠ 9) :
    Calls Tryz.prog 212 #[ptr P, v] w (LsP P R mb w ⟨1, 0, 0, 0, 0, n, [], 0, [], []⟩ s) := by
  obtain ⟨b, vl, vr, vg, ys, hb, rfl, hw, hbo⟩ := ndx hx
  obtain ⟨hN, -⟩ := hw w (Below.refl _ _)
  have c0 := hN.c0
  have c2 := hN.c2
  obtain ⟨G, hG⟩ : ∃ G, G = LsP P R mb w ⟨1, 0, 0, 0, 0, n, [], 0, [], []⟩ s := ⟨_, rfl⟩
  obtain ⟨HR, HE⟩ := last_new h 1 0 n hG
  rw [← hG]
  have t2 : ((c : Int) == 2) = false := by simpa using h2
  have t3 : ((c : Int) == 3) = false := by simpa using h3
  have t4 : ((c : Int) == 4) = false := by simpa using h4
  have t5 : ((c : Int) == 5) = false := by simpa using h5
  have t6 : ((c : Int) == 6) = false := by simpa using h6
  have t7 : ((c : Int) == 7) = false := by simpa using h7
  have t8 : ((c : Int) == 8) = false := by simpa using h8
  have t9 : ((c : Int) == 9) = false := by simpa using h9
  have d0 := zk (A := .cells #[.int .i64 0, .int .i64 0, .int .i64 0, .int .i64 0, .int .i64 0, .int .i64 0, .string ⟨#[]⟩, .int .i64 0, .string ⟨#[]⟩, .slice none 0 0] 125) c0
  have d2 := zk (A := .cells #[.int .i64 0, .int .i64 0, .int .i64 0, .int .i64 0, .int .i64 0, .int .i64 0, .string ⟨#[]⟩, .int .i64 0, .string ⟨#[]⟩, .slice none 0 0] 125) c2
  clear hw hx hbo h hG hN h2 h3 h4 h5 h6 h7 h8 h9
  go_enter Tryz.func212, Tryz.ntmps212
  go_wp2
  refine bodyPost_ret (qQ Tryz.results212 _ _ w.heap.size _ _ _ _ _ _ _ _ _ _ rfl HR.out) rfl ?_
  exact HE.out
theorem last_input {R : Nat → Nat} {w : World} {P mb : Nat} {s : Wr} {k1 k2 k3 : IntKind} {a n : Int} {nm op : By} {l r g : Tr} {v : Value} (h : WrM R w P mb s) (hx : ExAt (Lo (P - 1)) w (ndk k1 k2 k3 9 a n nm op l r g) v) :
    Calls Tryz.prog 212 #[ptr P, v] w (LsP P R mb w ⟨14, 0, 0, 0, 0, 0, [], 0, [], []⟩ s) := by
  obtain ⟨b, vl, vr, vg, ys, hb, rfl, hw, hbo⟩ := ndx hx
  obtain ⟨hN, -⟩ := hw w (Below.refl _ _)
  have c0 := hN.c0
  obtain ⟨G, hG⟩ : ∃ G, G = LsP P R mb w ⟨14, 0, 0, 0, 0, 0, [], 0, [], []⟩ s := ⟨_, rfl⟩
  obtain ⟨HR, HE⟩ := last_new h 14 0 0 hG
  rw [← hG]
  have d0 := zk (A := .cells #[.int .i64 0, .int .i64 0, .int .i64 0, .int .i64 0, .int .i64 0, .int .i64 0, .string ⟨#[]⟩, .int .i64 0, .string ⟨#[]⟩, .slice none 0 0] 125) c0
  clear hw hx hbo h hG hN
  go_enter Tryz.func212, Tryz.ntmps212
  go_wp2
  refine bodyPost_ret (qQ Tryz.results212 _ _ w.heap.size _ _ _ _ _ _ _ _ _ _ rfl HR.out) rfl ?_
  exact HE.out
theorem heap_drw (W : World) (b : Nat) : W.drew.heap[b]? = W.heap[b]? := rfl
theorem LsP.drew {P : Nat} {R : Nat → Nat} {mb : Nat} {w : World} {x : Ms} {s' : Wr} {e : Ending} {W : World} (h : LsP P R mb w x s' e W) : LsP P R mb w x s' e W.drew := by
  obtain ⟨qa, na, ca, h1, R2, h2, h3, h4⟩ := h
  have hd : Lw P R2 R2 W W.drew := ⟨zl _ _, fun _ _ => rfl, fun _ _ _ => rfl⟩
  exact ⟨qa, na, ca, h1, R2, h2.on (fun _ _ => rfl) (zl _ _), h3.trans hd, h4.kept hd⟩
theorem last_name {R : Nat → Nat} {w : World} {P mb : Nat} {s : Wr} {k1 k2 k3 : IntKind} {a n : Int} {nm op : By} {l r g : Tr} {v : Value} (h : WrM R w P mb s) (hx : ExAt (Lo (P - 1)) w (ndk k1 k2 k3 2 a n nm op l r g) v) (hnm : nm.length ≤ 1000) :
    Calls Tryz.prog 212 #[ptr P, v] w (LsP P R mb w ⟨2, 0, (nmG s.nm nm : Int), 0, 0, 0, [], 0, [], []⟩ s) := by
  obtain ⟨b, vl, vr, vg, ys, hb, rfl, hw, hbo⟩ := ndx hx
  obtain ⟨hm1, hl1⟩ := h.al zst
  obtain ⟨G, hG⟩ : ∃ G, G = LsP P R mb w ⟨2, 0, (nmG s.nm nm : Int), 0, 0, 0, [], 0, [], []⟩ s := ⟨_, rfl⟩
  obtain ⟨hN, -⟩ := hw (w.alloc zst) hl1.bel
  obtain ⟨y, hy⟩ : ∃ y : ByteArray, y = ⟨nm.toArray⟩ := ⟨_, rfl⟩
  obtain ⟨j, hj⟩ : ∃ j, j = nmG s.nm nm := ⟨_, rfl⟩
  have c0 : (w.alloc (.cells #[.int .i64 0, .int .i64 0, .int .i64 0, .int .i64 0, .int .i64 0, .int .i64 0, .string ⟨#[]⟩, .int .i64 0, .string ⟨#[]⟩, .slice none 0 0] 125)).cell? ⟨b, 0, none⟩ = some (.int .i64 2) := hN.c0
  have c3 : (w.alloc (.cells #[.int .i64 0, .int .i64 0, .int .i64 0, .int .i64 0, .int .i64 0, .int .i64 0, .string ⟨#[]⟩, .int .i64 0, .string ⟨#[]⟩, .slice none 0 0] 125)).cell? ⟨b, 3, none⟩ = some (.string y) := by rw [hy]; exact hN.c3
  obtain ⟨tv, sv, v1, v2, hm⟩ := hm1
  have hlk : (Instr.lookup 92 (.map (some mb)) (.string y) false).run Tryz.prog (w.alloc (.cells #[.int .i64 0, .int .i64 0, .int .i64 0, .int .i64 0, .int .i64 0, .int .i64 0, .string ⟨#[]⟩, .int .i64 0, .string ⟨#[]⟩, .slice none 0 0] 125)).drew = .ok (.int .i64 (j : Int)) (w.alloc (.cells #[.int .i64 0, .int .i64 0, .int .i64 0, .int .i64 0, .int .i64 0, .int .i64 0, .string ⟨#[]⟩, .int .i64 0, .string ⟨#[]⟩, .slice none 0 0] 125)).drew := by
    rw [hy, hj]
    exact hm.name nm (by omega) _ rfl
  have d2 : (w.alloc (.cells #[.int .i64 0, .int .i64 0, .int .i64 0, .int .i64 0, .int .i64 0, .int .i64 0, .string ⟨#[]⟩, .int .i64 0, .string ⟨#[]⟩, .slice none 0 0] 125)).cell? ⟨P, 2, none⟩ = some (.map (some mb)) := z_ (i := 2) hm.blk rfl
  obtain ⟨W1, hW1⟩ : ∃ W1, W1 = w.alloc (.cells #[.int .i64 0, .int .i64 0, .int .i64 0, .int .i64 0, .int .i64 0, .int .i64 0, .string ⟨#[]⟩, .int .i64 0, .string ⟨#[]⟩, .slice none 0 0] 125) := ⟨_, rfl⟩
  have HZ : Hid (Zc w.heap.size W1 ∧ Hid ((set10 W1 w.heap.size (.int .i64 2) (.int .i64 0) (.int .i64 (j : Int)) (.int .i64 0) (.int .i64 0) (.int .i64 0) (.string ⟨#[]⟩) (.int .i64 0) (.string ⟨#[]⟩) (.slice none 0 0)).drew.heap[w.heap.size]? = some (.cells #[.int .i64 2, .int .i64 0, .int .i64 (j : Int), .int .i64 0, .int .i64 0, .int .i64 0, .string ⟨#[]⟩, .int .i64 0, .string ⟨#[]⟩, .slice none 0 0] 125)) ∧ Hid (G (.returned (.agg #[.int .i64 2, .int .i64 0, .int .i64 (j : Int), .int .i64 0, .int .i64 0, .int .i64 0, .string ⟨#[]⟩, .int .i64 0, .string ⟨#[]⟩, .slice none 0 0])) (set10 W1 w.heap.size (.int .i64 2) (.int .i64 0) (.int .i64 (j : Int)) (.int .i64 0) (.int .i64 0) (.int .i64 0) (.string ⟨#[]⟩) (.int .i64 0) (.string ⟨#[]⟩) (.slice none 0 0)).drew)) := by
    show _ ∧ _
    rw [hW1]
    obtain ⟨r1, r2⟩ := fin_step (W := w.alloc zst) h (h.al zst).1 (Lw.refl P R _) 2 0 (j : Int) 0 0 0 0 ⟨#[]⟩ ⟨#[]⟩ [] none 0 0 (ArAt.none _ _)
    refine ⟨zcells h (Lw.refl _ _ _), (heap_drw _ _).trans r1, ?_⟩
    show G _ _
    rw [hG, ← hj]
    exact LsP.drew r2
  rw [← hG]
  rw [← hW1] at c0 c3 hlk d2
  have HW1 : Hid (W1 = _) := hW1
  clear hw hx hbo h hG hN hm hl1 hy hnm hj
  go_enter Tryz.func212, Tryz.ntmps212
  go_upto_region 1 with fail
  rw [← hW1]
  clear hW1
  obtain ⟨⟨⟨z0, z1, z2, z3, z4, z5, z6, z7, z8, z9⟩, zf⟩, HR, HE⟩ := HZ.out
  have f0 := zf 0; have f1 := zf 1; have f2 := zf 2; have f3 := zf 3; have f4 := zf 4; have f5 := zf 5; have f6 := zf 6; have f7 := zf 7; have f8 := zf 8; have f9 := zf 9
  clear zf HZ HW1
  go_wp2_with fail
  go_region
  all_goals
    go_wp2
    refine bodyPost_ret (qQ Tryz.results212 _ _ w.heap.size _ _ _ _ _ _ _ _ _ _ rfl HR.out) rfl ?_
    exact HE.out
theorem unc_chain : ∀ xs : List Tr, unc (chain xs) = xs
  | [] => rfl
  | x :: xs => by
    show x :: unc (chain xs) = _
    rw [unc_chain xs]
theorem WrM.al7 {R : Nat → Nat} {w : World} {P mb : Nat} {s : Wr} (h : WrM R w P mb s) (A : Obj) : WrM (rol R w.heap.size 7) (w.alloc A) P mb s ∧ R w.heap.size = 0 := by
  obtain ⟨tv, sv, v1, v2, h⟩ := h
  have h0 : R w.heap.size = 0 := by
    rcases Nat.eq_zero_or_pos (R w.heap.size) with e | e
    · exact e
    · have := h.lo w.heap.size (by omega); omega
  have hr : ∀ b, b < w.heap.size → rol R w.heap.size 7 b = R b := fun b hb => if_neg (by omega)
  have hb : Below (P - 1) w (w.alloc A) := (zt w A).mono (by have := h.ltP; omega)
  obtain ⟨hl, a1, a2, a3, a4, a5⟩ := h.part (r := 6) (R' := rol R w.heap.size 7) (w' := w.alloc A) (fun b hb _ _ => zc hb) hr (by omega) hb
  obtain ⟨r0, r1, r2, r3, r4, r5⟩ := h.roles hr
  refine ⟨⟨tv, sv, v1, v2, ⟨by rw [zc h.ltP]; exact h.blk, a1 (by omega), a2 (by omega), a3 (by omega), a4 (by omega), a5 (by omega), r0, r1, r2, r3, r4, r5, fun b hb' => rol_lo h ⟨Nat.le_of_lt h.ltP, by simp⟩ hb.size b hb', h.ok⟩⟩, h0⟩
theorem WrM.set7 {R : Nat → Nat} {W : World} {P mb : Nat} {s : Wr} (h : WrM R W P mb s) {g i : Nat} {v : Value} (h7 : R g = 7) : WrM R (W.setCell ⟨g, i, none⟩ v) P mb s := by
  obtain ⟨tv, sv, v1, v2, h⟩ := h
  have hk : ∀ b, R b ≠ 7 → (W.setCell ⟨g, i, none⟩ v).heap[b]? = W.heap[b]? := fun b hb => heap_setCell_other _ _ _ _ (fun e => hb (by rw [show b = g from e]; exact h7))
  obtain ⟨avs, a1, a2, a3⟩ := h.st
  obtain ⟨n, m1, m2⟩ := h.m
  refine ⟨tv, sv, v1, v2, (hk P (by rw [h.rP]; omega)).trans h.blk, qr h.t (fun i hi => hk i (by rw [h.rt i hi]; omega)), ⟨avs, a1, qr a2 (fun i hi => hk i (by rw [h.rs i hi]; omega)), fun j x a hx ha => ?_⟩, qr h.p1 (fun i hi => hk i (by rw [h.r1 i hi]; omega)), qr h.p2 (fun i hi => hk i (by rw [h.r2 i hi]; omega)), ⟨n, m1.kept (hk mb (by rw [h.rm]; omega)), m2⟩, h.rP, h.rt, h.rs, h.r1, h.r2, h.rm, fun b hb => ⟨(h.lo b hb).1, by have := (h.lo b hb).2; simp; omega⟩, h.ok⟩
  obtain ⟨q, c, e, h2⟩ := a3 j x a hx ha
  refine ⟨q, c, e, ?_⟩
  rcases h2 with h2 | ⟨k, ks, e1, e2, e3, e4⟩
  · exact .inl h2
  · exact .inr ⟨k, ks, e1, e2, (hk k (by omega)).trans e3, e4⟩
theorem WrM.none7 {R : Nat → Nat} {W : World} {P mb : Nat} {s : Wr} (h : WrM R W P mb s) {g : Nat} (h7 : R g = 7) : WrM (rol R g 0) W P mb s := by
  obtain ⟨tv, sv, v1, v2, h⟩ := h
  have hk : ∀ b, R b ≠ 7 → rol R g 0 b = R b := fun b hb => if_neg (fun e => hb (by rw [e]; exact h7))
  obtain ⟨avs, a1, a2, a3⟩ := h.st
  refine ⟨tv, sv, v1, v2, h.blk, h.t, ⟨avs, a1, a2, fun j x a hx ha => ?_⟩, h.p1, h.p2, h.m, (hk P (by rw [h.rP]; omega)).trans h.rP, fun i hi => (hk i (by rw [h.rt i hi]; omega)).trans (h.rt i hi), fun i hi => (hk i (by rw [h.rs i hi]; omega)).trans (h.rs i hi), fun i hi => (hk i (by rw [h.r1 i hi]; omega)).trans (h.r1 i hi), fun i hi => (hk i (by rw [h.r2 i hi]; omega)).trans (h.r2 i hi), (hk mb (by rw [h.rm]; omega)).trans h.rm, fun b hb => ?_, h.ok⟩
  · obtain ⟨q, c, e, h2⟩ := a3 j x a hx ha
    refine ⟨q, c, e, ?_⟩
    rcases h2 with h2 | ⟨k, ks, e1, e2, e3, e4⟩
    · exact .inl h2
    · exact .inr ⟨k, ks, e1, (hk k (by omega)).trans e2, e3, e4⟩
  · refine h.lo b ?_
    unfold rol at hb
    split at hb
    · exact absurd rfl hb
    · exact hb
theorem mk_ints3 (n : Nat) (hn : n ≤ 1000000) (w : World) : (Instr.makeSlice 100 (.int .i64 (n : Int)) (.int .i64 (n : Int))).run Tryz.prog w = .ok (.slice (some ⟨w.heap.size, 0, none⟩) n n) (w.alloc (.cells (q_ (List.replicate n 0)).toArray 3)) := by
  obtain ⟨i, hi, hz0, hz1, hz2⟩ := info_parts info3
  have := run_makeSlice w 100 3 i _ Tryz.underlying100 hi hz0 .i64 .i64 (n : Int) (n : Int) (by omega) (by omega) (by rw [hz1]; simp; omega) (by rw [hz2]; omega) (by omega)
  rw [hz1] at this
  simp only [Int.toNat_natCast, made_int] at this
  exact this
def ArI (V : Tr → Lm Nat) (P : Nat) (R : Nat → Nat) (mb : Nat) (W1 : World) (n : Nat) (xs : List Tr) (s' : Wr) (ps : List Int) (i : Nat) (wr : World) : Prop :=
  ∃ Rr si pi rest, WrM Rr wr P mb si ∧ Lw P R Rr W1 wr ∧ Rr W1.heap.size = 7 ∧ wr.heap[W1.heap.size]? = some (.cells (q_ (pi ++ List.replicate (n - i) 0)).toArray 3) ∧ pi.length = i ∧ argsL V (xs.drop i) si = some (rest, s') ∧ ps = pi ++ rest
theorem arI_start {V : Tr → Lm Nat} {P : Nat} {R : Nat → Nat} {mb : Nat} {W1 : World} {xs : List Tr} {s s' : Wr} {ps : List Int} (h : WrM R W1 P mb s) (ha : argsL V xs s = some (ps, s')) : ArI V P R mb W1 xs.length xs s' ps 0 (W1.alloc (.cells (q_ (List.replicate xs.length 0)).toArray 3)) := by
  obtain ⟨h1, h0⟩ := h.al7 (.cells (q_ (List.replicate xs.length 0)).toArray 3)
  refine ⟨_, s, [], ps, h1, ⟨(h.al _).2.bel, fun b hb => if_neg (by omega), fun b hb _ => zc hb⟩, if_pos rfl, heap_alloc_last _ _, rfl, ha, rfl⟩
theorem argsL_next {V : Tr → Lm Nat} {xs : List Tr} {i : Nat} {x : Tr} {si s' : Wr} {rest : List Int} (hx : xs[i]? = some x) (ha : argsL V (xs.drop i) si = some (rest, s')) : ∃ p s1 rest', V x si = some (p, s1) ∧ argsL V (xs.drop (i + 1)) s1 = some (rest', s') ∧ rest = (p : Int) :: rest' := by
  have hlt := (List.getElem?_eq_some_iff.1 hx).1
  have e : xs.drop i = x :: xs.drop (i + 1) := by
    rw [List.drop_eq_getElem_cons hlt]
    congr 1
    have := List.getElem?_eq_getElem hlt
    rw [hx] at this
    exact (Option.some.inj this).symm
  rw [e] at ha
  obtain ⟨p, s1, h1, h2⟩ := zg ha
  obtain ⟨ps, s2, h3, h4⟩ := zg h2
  injection h4 with h4
  injection h4 with h4 h5
  subst h5
  exact ⟨p, s1, ps, h1, h3, h4.symm⟩
theorem ints_set (pi : List Int) (k : Nat) (p : Int) : (q_ (pi ++ List.replicate (k + 1) 0)).toArray.setIfInBounds pi.length (.int .i64 p) = (q_ ((pi ++ [p]) ++ List.replicate k 0)).toArray := by
  apply Array.ext'
  simp [q_, List.set_append, List.replicate_succ]
theorem arI_next {V : Tr → Lm Nat} {P : Nat} {R : Nat → Nat} {mb : Nat} {W1 : World} {n : Nat} {xs : List Tr} {s' : Wr} {ps : List Int} {i : Nat} {wr w5 : World} {Rr R5 : Nat → Nat} {s1 : Wr} {pi rest' : List Int} {p : Nat} (hi : i < n) (hl : Lw P R Rr W1 wr) (h7 : Rr W1.heap.size = 7) (hc : wr.heap[W1.heap.size]? = some (.cells (q_ (pi ++ List.replicate (n - i) 0)).toArray 3)) (hpi : pi.length = i) (hm5 : WrM R5 w5 P mb s1) (hl5 : Lw P Rr R5 wr w5) (ha : argsL V (xs.drop (i + 1)) s1 = some (rest', s')) (hps : ps = pi ++ ((p : Int) :: rest')) (hP : P ≤ W1.heap.size) :
    (∃ v, w5.cell? ⟨W1.heap.size, i, none⟩ = some v) ∧ w5.frozen? ⟨W1.heap.size, i, none⟩ = false ∧ ArI V P R mb W1 n xs s' ps (i + 1) (w5.setCell ⟨W1.heap.size, i, none⟩ (.int .i64 (p : Int))) := by
  have hlt := (Array.getElem?_eq_some_iff.1 hc).1
  have hc5 := (hl5.keep W1.heap.size hlt (.inr (by omega))).trans hc
  have h75 : R5 W1.heap.size = 7 := (hl5.role W1.heap.size hlt).trans h7
  obtain ⟨k, hk⟩ : ∃ k, n - i = k + 1 := ⟨n - i - 1, by omega⟩
  have hk2 : n - (i + 1) = k := by omega
  refine ⟨⟨_, z_ (i := i) hc5 (List.getElem?_toArray .. |>.trans (by simp [q_]; exact List.getElem?_eq_getElem (by simp; omega)))⟩, zb hc5 i, R5, s1, pi ++ [(p : Int)], rest', hm5.set7 h75, ?_, h75, ?_, by simp [hpi], ha, by rw [hps]; simp⟩
  · have h0 := hl.trans hl5
    exact ⟨h0.bel.setCell (p := ⟨W1.heap.size, i, none⟩) (show P - 1 ≤ W1.heap.size by omega) _, h0.role, fun b hb h => by rw [heap_setCell_other _ _ _ _ (by show b ≠ W1.heap.size; omega)]; exact h0.keep b hb h⟩
  · have := heap_setCell_same w5 W1.heap.size i _ _ (.int .i64 (p : Int)) hc5
    rw [this, hk, hk2, ← hpi, ints_set]
theorem arI_end {V : Tr → Lm Nat} {P : Nat} {R : Nat → Nat} {mb : Nat} {W1 : World} {n : Nat} {xs : List Tr} {s' : Wr} {ps : List Int} {wr : World} (h : ArI V P R mb W1 n xs s' ps n wr) (hn : xs.length = n) : ∃ R', WrM R' wr P mb s' ∧ Lw P R R' W1 wr ∧ ArAt R' wr (.slice (some ⟨W1.heap.size, 0, none⟩) n n) ps := by
  obtain ⟨Rr, si, pi, rest, hm, hl, h7, hc, hpi, ha, hps⟩ := h
  rw [List.drop_of_length_le (by omega)] at ha
  injection ha with ha
  injection ha with h1 h2
  subst h1 h2
  rw [List.append_nil] at hps
  subst hps
  refine ⟨_, hm.none7 h7, ⟨hl.bel, fun b hb => (if_neg (by omega)).trans (hl.role b hb), hl.keep⟩, some ⟨W1.heap.size, 0, none⟩, n, by rw [hpi], .inr ⟨_, _, rfl, if_pos rfl, hc, fun j x hx => ?_⟩⟩
  rw [Nat.sub_self]
  simp [q_, hx]
theorem last_call {V : Tr → Lm Nat} (hV : VaC V) {R : Nat → Nat} {w : World} {P mb : Nat} {s s' : Wr} {k1 k2 k3 : IntKind} {a n : Int} {nm op : By} {l r g : Tr} {v : Value} {ps : List Int} (h : WrM R w P mb s) (hx : ExAt (Lo (P - 1)) w (ndk k1 k2 k3 5 a n nm op l r g) v) (e1 : argsL V (unc g) s = some (ps, s')) (hln : (unc g).length ≤ 1000000) :
    Calls Tryz.prog 212 #[ptr P, v] w (LsP P R mb w ⟨7, 0, 0, 0, 0, 0, [], 0, nm, ps⟩ s') := by
  obtain ⟨b, vl, vr, vg, ys, hb, rfl, hw, hbo⟩ := ndx hx
  obtain ⟨hm1, hl1⟩ := h.al zst
  obtain ⟨hN, -, -, hrow, hch⟩ := hw (w.alloc zst) hl1.bel
  obtain ⟨xs, rfl, hlen, hat⟩ := chain_open ys _ hch
  rw [unc_chain] at e1 hln
  obtain ⟨qg, cg, rfl⟩ := zd hrow
  have c0 : (w.alloc (.cells #[.int .i64 0, .int .i64 0, .int .i64 0, .int .i64 0, .int .i64 0, .int .i64 0, .string ⟨#[]⟩, .int .i64 0, .string ⟨#[]⟩, .slice none 0 0] 125)).cell? ⟨b, 0, none⟩ = some (.int .i64 5) := hN.c0
  obtain ⟨m, hmn⟩ : ∃ m, m = ys.length := ⟨_, rfl⟩
  have c7 : (w.alloc (.cells #[.int .i64 0, .int .i64 0, .int .i64 0, .int .i64 0, .int .i64 0, .int .i64 0, .string ⟨#[]⟩, .int .i64 0, .string ⟨#[]⟩, .slice none 0 0] 125)).cell? ⟨b, 7, none⟩ = some (.slice qg m cg) := by rw [hmn]; exact hN.c7
  obtain ⟨W1, hW1⟩ : ∃ W1, W1 = w.alloc (.cells #[.int .i64 0, .int .i64 0, .int .i64 0, .int .i64 0, .int .i64 0, .int .i64 0, .string ⟨#[]⟩, .int .i64 0, .string ⟨#[]⟩, .slice none 0 0] 125) := ⟨_, rfl⟩
  have HW1 : Hid (W1 = w.alloc zst) := hW1
  have hz1 : W1.heap.size = w.heap.size + 1 := by rw [hW1]; simp
  have HL1 : Hid (Lw P R R w W1) := HW1.out ▸ hl1
  have hm1' : WrM R W1 P mb s := HW1.out ▸ hm1
  have hxm : xs.length = m := by rw [hlen, hmn]
  have hS := arI_start hm1' e1
  have her : (q_ (List.replicate m 0)).toArray = Array.replicate m (.int .i64 0) := by apply Array.ext'; simp [q_]
  rw [hxm, her] at hS
  have hmk := mk_ints3 m (by omega) W1
  rw [hz1, her] at hmk
  obtain ⟨W2, hW2⟩ : ∃ W2, W2 = W1.alloc (.cells (Array.replicate m (.int .i64 0)) 3) := ⟨_, rfl⟩
  rw [← hW2] at hS
  have HS : Hid (ArI V P R mb W1 m xs s' ps 0 W2) := hS
  have HPw : Hid (P ≤ W1.heap.size) := by obtain ⟨_, _, _, _, hh⟩ := hm1'; exact Nat.le_of_lt hh.ltP
  have HM0 : Hid (WrM R w P mb s) := h
  obtain ⟨yn, hyn⟩ : ∃ y : ByteArray, y = ⟨nm.toArray⟩ := ⟨_, rfl⟩
  have HNd : Hid (∀ W, Below (P - 1) w W → W.cell? ⟨b, 3, none⟩ = some (.string yn) ∧ W.cell? ⟨b, 7, none⟩ = some (.slice qg m cg) ∧ W.ownsRow 0 145 1 (.slice qg m cg) m ys) := fun W hW => by rw [hyn, hmn]; exact ⟨(hw W hW).1.c3, (hw W hW).1.c7, (hw W hW).2.2.2.1⟩
  have HAt : Hid (∀ W (i : Nat) (x : Tr) (y : Value), Below (P - 1) w W → xs[i]? = some x → ys[i]? = some y → ExAt (Lo (P - 1)) W x y) := fun W i x y hW h1 h2 => by
    obtain ⟨xs2, e2, -, hat2⟩ := chain_open ys _ (hw W hW).2.2.2.2
    have : xs2 = xs := by rw [← unc_chain xs2, ← e2, unc_chain]
    subst this
    exact hat2 i x y h1 h2
  have HXm : Hid (xs.length = m ∧ ys.length = m) := ⟨hxm, hmn.symm⟩
  obtain ⟨G, hG⟩ : ∃ G, G = LsP P R mb w ⟨7, 0, 0, 0, 0, 0, [], 0, nm, ps⟩ s' := ⟨_, rfl⟩
  have HEnd : Hid (∀ R2 w2, WrM R2 w2 P mb s' → Lw P R R2 W1 w2 → ArAt R2 w2 (.slice (some ⟨w.heap.size + 1, 0, none⟩) m m) ps → Zc w.heap.size w2 ∧ ReL w.heap.size w2 (.int .i64 7) (.int .i64 0) (.int .i64 0) (.int .i64 0) (.int .i64 0) (.int .i64 0) (.string ⟨#[]⟩) (.int .i64 0) (.string yn) (.slice (some ⟨w.heap.size + 1, 0, none⟩) m m) G) := fun R2 w2 hm hl har => last_end HM0.out hm (HW1.out ▸ hl) 7 0 0 0 0 0 0 ⟨#[]⟩ yn ps _ _ _ har (by rw [hG, hyn])
  rw [← hG]
  have HZ1 : Hid (W1.heap.size = w.heap.size + 1) := hz1
  have hm6 : m ≤ 1000000 := by omega
  clear hw hx hbo h hG hN hm1 hl1 hrow hch hat e1 hlen hmn hyn hln hm1' hS hxm HW1 HM0 hz1 her
  go_enter Tryz.func212, Tryz.ntmps212
  go_upto_region 1 with fail
  rw [← hW1] at c0 c7 ⊢
  clear hW1
  have c7b : (W1.alloc (.cells (Array.replicate m (.int .i64 0)) 3)).cell? ⟨b, 7, none⟩ = some (.slice qg m cg) := zk c7
  go_wp2_with fail
  rw [← hW2]
  clear hW2 hmk c7b c7 c0
  go_loopw [48] (fun v wr => ∃ i : Nat, i ≤ m ∧ v = .int .i64 i ∧ Hid (ArI V P R mb W1 m xs s' ps i wr)) (fun v _ => m - (intOf v).toNat)
  case atStart => exact ⟨0, Nat.zero_le _, rfl, HS⟩
  case round =>
    obtain ⟨i, him, rfl, HI⟩ := hrel
    by_cases hlt : i < m
    · obtain ⟨x, hxi⟩ : ∃ x, xs[i]? = some x := ⟨xs[i]'(by have := HXm.out; omega), List.getElem?_eq_getElem _⟩
      obtain ⟨y, hyi⟩ : ∃ y, ys[i]? = some y := ⟨ys[i]'(by have := HXm.out; omega), List.getElem?_eq_getElem _⟩
      obtain ⟨Rr, si, pi, rest, hm, hl, h7, hc, hpi, ha, hps⟩ := HI.out
      obtain ⟨p, s1, rest', e1, e2, rfl⟩ := argsL_next hxi ha
      have hbw := (HL1.out.trans hl).bel
      obtain ⟨-, c7, hro⟩ := HNd.out wr hbw
      obtain ⟨g, cap, eq, -, -⟩ := hro.form (by omega)
      injection eq with eq1 eq2 eq3
      subst eq1
      clear eq2 eq3
      have q0 : wr.cell? ⟨g, i, none⟩ = some y := by
        have := hro.cells (g := g) rfl i _ hyi
        rw [add_at0] at this
        exact this
      have HC : Hid (Calls Tryz.prog 163 #[ptr P, y] wr (LnP P Rr mb wr (p : Int) s1)) := hV Rr wr P mb si s1 x y p hm (HAt.out wr i x y hbw hxi hyi) e1
      have HN : Hid (∀ w5 R5, WrM R5 w5 P mb s1 → Lw P Rr R5 wr w5 → (∃ v, w5.cell? ⟨w.heap.size + 1, i, none⟩ = some v) ∧ w5.frozen? ⟨w.heap.size + 1, i, none⟩ = false ∧ Hid (ArI V P R mb W1 m xs s' ps (i + 1) (w5.setCell ⟨w.heap.size + 1, i, none⟩ (.int .i64 (p : Int))))) := fun w5 R5 k1 k2 => by
        rw [← HZ1.out]
        exact arI_next hlt hl h7 hc hpi k1 k2 e2 hps HPw.out
      clear hm hl h7 hc hpi ha hps e1 e2 hbw c7 hro hxi hyi
      go_wp2_with (go_at_call 163; fail)
      refine HC.out.mono ?_
      rintro e w5 ⟨rfl, R5, hm5, hl5⟩
      obtain ⟨⟨v5, q5⟩, f5, HI5⟩ := HN.out w5 R5 hm5 hl5
      clear hm5 hl5 HC HN q0
      go_wp2
      exact ⟨⟨i + 1, by omega, by go_num, HI5⟩, by simp [intOf]; omega⟩
    · obtain rfl : i = m := by omega
      obtain ⟨R9, k1, k2, k3⟩ := arI_end HI.out HXm.out.1
      have c3 := (HNd.out wr (HL1.out.trans k2).bel).1
      obtain ⟨⟨⟨z0, z1, z2, z3, z4, z5, z6, z7, z8, z9⟩, zf⟩, HR, HE⟩ := HEnd.out R9 wr k1 k2 (by rw [← HZ1.out]; exact k3)
      have f0 := zf 0; have f1 := zf 1; have f2 := zf 2; have f3 := zf 3; have f4 := zf 4; have f5 := zf 5; have f6 := zf 6; have f7 := zf 7; have f8 := zf 8; have f9 := zf 9
      clear k1 k2 k3 zf HEnd
      go_wp2
      refine bodyPost_ret (qQ Tryz.results212 _ _ w.heap.size _ _ _ _ _ _ _ _ _ _ rfl HR.out) rfl ?_
      exact HE.out
end Go.Proofs.YtnfhpdbbfejioaaGreatDoor.Mid
