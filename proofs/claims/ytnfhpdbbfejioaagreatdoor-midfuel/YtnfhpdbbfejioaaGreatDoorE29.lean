/- LK -/
import Derived.Test.YtnfhpdbbfejioaaGreatDoorE28
namespace Go.Proofs.YtnfhpdbbfejioaaGreatDoor.Mid
set_option linter.unusedVariables false
set_option linter.unusedSimpArgs false
set_option maxRecDepth 100000
set_option maxHeartbeats 16000000
open Go Go.RowKit
theorem last_part {F : Lf} (hV : VaC F.V) {R : Nat → Nat} {w : World} {P mb : Nat} {s s' : Wr} {k1 k2 k3 : IntKind} {c a n : Int} {nm op : By} {l r g : Tr} {v : Value} {p : Nat} (xc : Int) (hc : (c = 6 ∧ xc = 9) ∨ (c = 7 ∧ xc = 10)) (h : WrM R w P mb s) (hx : ExAt (Lo (P - 1)) w (ndk k1 k2 k3 c a n nm op l r g) v) (e1 : F.V l s = some (p, s')) :
    Calls Tryz.prog 212 #[ptr P, v] w (LsP P R mb w ⟨xc, 0, (p : Int), 0, 0, 0, [], 0, [], []⟩ s') := by
  obtain ⟨b, vl, vr, vg, ys, hb, rfl, hw, hbo⟩ := ndx hx
  obtain ⟨hm1, hl1⟩ := h.al zst
  obtain ⟨hN, hXl, -⟩ := hw (w.alloc zst) hl1.bel
  have c0 : (w.alloc (.cells #[.int .i64 0, .int .i64 0, .int .i64 0, .int .i64 0, .int .i64 0, .int .i64 0, .string ⟨#[]⟩, .int .i64 0, .string ⟨#[]⟩, .slice none 0 0] 125)).cell? ⟨b, 0, none⟩ = some (.int .i64 c) := hN.c0
  have c5 : (w.alloc (.cells #[.int .i64 0, .int .i64 0, .int .i64 0, .int .i64 0, .int .i64 0, .int .i64 0, .string ⟨#[]⟩, .int .i64 0, .string ⟨#[]⟩, .slice none 0 0] 125)).cell? ⟨b, 5, none⟩ = some vl := hN.c5
  obtain ⟨W1, hW1⟩ : ∃ W1, W1 = w.alloc (.cells #[.int .i64 0, .int .i64 0, .int .i64 0, .int .i64 0, .int .i64 0, .int .i64 0, .string ⟨#[]⟩, .int .i64 0, .string ⟨#[]⟩, .slice none 0 0] 125) := ⟨_, rfl⟩
  have HC : Hid (Calls Tryz.prog 163 #[ptr P, vl] W1 (LnP P R mb W1 (p : Int) s')) := by
    show Calls _ _ _ _ _
    rw [hW1]
    exact hV R (w.alloc zst) P mb s s' l vl p hm1 hXl e1
  have HW1 : Hid (W1 = w.alloc zst) := hW1
  have HM0 : Hid (WrM R w P mb s) := h
  obtain ⟨G, hG⟩ : ∃ G, G = LsP P R mb w ⟨xc, 0, (p : Int), 0, 0, 0, [], 0, [], []⟩ s' := ⟨_, rfl⟩
  have HG : Hid (G = LsP P R mb w ⟨xc, 0, (p : Int), 0, 0, 0, [], 0, [], []⟩ s') := hG
  rw [← hG]
  have HEnd : Hid (∀ R2 w2, WrM R2 w2 P mb s' → Lw P R R2 W1 w2 → Zc w.heap.size w2 ∧ ReL w.heap.size w2 (.int .i64 xc) (.int .i64 0) (.int .i64 (p : Int)) (.int .i64 0) (.int .i64 0) (.int .i64 0) (.string ⟨#[]⟩) (.int .i64 0) (.string ⟨#[]⟩) (.slice none 0 0) G) := fun R2 w2 hm hl => last_end HM0.out hm (HW1.out ▸ hl) xc 0 (p : Int) 0 0 0 0 ⟨#[]⟩ ⟨#[]⟩ [] none 0 0 (ArAt.none _ _) HG.out
  clear hw hx hbo h hG hN hm1 hl1 hXl e1 HW1 HM0 HG
  rcases hc with ⟨rfl, rfl⟩ | ⟨rfl, rfl⟩
  · go_enter Tryz.func212, Tryz.ntmps212
    go_wp2_with (go_at_call 163; fail)
    rw [← hW1]
    clear hW1 c0 c5
    refine HC.out.mono ?_
    rintro e w2 ⟨rfl, R2, hm2, hl2⟩
    obtain ⟨⟨⟨z0, z1, z2, z3, z4, z5, z6, z7, z8, z9⟩, zf⟩, HR, HE⟩ := HEnd.out R2 w2 hm2 hl2
    have f0 := zf 0; have f1 := zf 1; have f2 := zf 2; have f3 := zf 3; have f4 := zf 4; have f5 := zf 5; have f6 := zf 6; have f7 := zf 7; have f8 := zf 8; have f9 := zf 9
    clear hm2 hl2 zf HEnd
    go_wp2
    refine bodyPost_ret (qQ Tryz.results212 _ _ w.heap.size _ _ _ _ _ _ _ _ _ _ rfl HR.out) rfl ?_
    exact HE.out
  · go_enter Tryz.func212, Tryz.ntmps212
    go_wp2_with (go_at_call 163; fail)
    rw [← hW1]
    clear hW1 c0 c5
    refine HC.out.mono ?_
    rintro e w2 ⟨rfl, R2, hm2, hl2⟩
    obtain ⟨⟨⟨z0, z1, z2, z3, z4, z5, z6, z7, z8, z9⟩, zf⟩, HR, HE⟩ := HEnd.out R2 w2 hm2 hl2
    have f0 := zf 0; have f1 := zf 1; have f2 := zf 2; have f3 := zf 3; have f4 := zf 4; have f5 := zf 5; have f6 := zf 6; have f7 := zf 7; have f8 := zf 8; have f9 := zf 9
    clear hm2 hl2 zf HEnd
    go_wp2
    refine bodyPost_ret (qQ Tryz.results212 _ _ w.heap.size _ _ _ _ _ _ _ _ _ _ rfl HR.out) rfl ?_
    exact HE.out
theorem last_mark {R : Nat → Nat} {w : World} {P mb : Nat} {s s' : Wr} {k1 k2 k3 : IntKind} {c a n : Int} {nm op : By} {l r g : Tr} {v : Value} {x : Ms} (fn : FuncId) (hc : (c = 3 ∧ fn = 240) ∨ (c = 4 ∧ fn = 241)) (h : WrM R w P mb s) (hx : ExAt (Lo (P - 1)) w (ndk k1 k2 k3 c a n nm op l r g) v) (hC : ∀ W R', WrM R' W P mb s → ExAt (Lo (P - 1)) W (ndk k1 k2 k3 c a n nm op l r g) v → Calls Tryz.prog fn #[ptr P, v] W (LsP P R' mb W x s')) :
    Calls Tryz.prog 212 #[ptr P, v] w (LsP P R mb w x s') := by
  have HX : Hid (ExAt (Lo (P - 1)) w (ndk k1 k2 k3 c a n nm op l r g) v) := hx
  obtain ⟨b, vl, vr, vg, ys, hb, rfl, hw, hbo⟩ := ndx hx
  obtain ⟨hm1, hl1⟩ := h.al zst
  obtain ⟨hN, hXl, -⟩ := hw (w.alloc zst) hl1.bel
  have c0 : (w.alloc (.cells #[.int .i64 0, .int .i64 0, .int .i64 0, .int .i64 0, .int .i64 0, .int .i64 0, .string ⟨#[]⟩, .int .i64 0, .string ⟨#[]⟩, .slice none 0 0] 125)).cell? ⟨b, 0, none⟩ = some (.int .i64 c) := hN.c0
  obtain ⟨W1, hW1⟩ : ∃ W1, W1 = w.alloc (.cells #[.int .i64 0, .int .i64 0, .int .i64 0, .int .i64 0, .int .i64 0, .int .i64 0, .string ⟨#[]⟩, .int .i64 0, .string ⟨#[]⟩, .slice none 0 0] 125) := ⟨_, rfl⟩
  have HW1 : Hid (W1 = w.alloc zst) := hW1
  have hC1 : Calls Tryz.prog fn #[ptr P, ptr b] W1 (LsP P R mb W1 x s') := by
    rw [hW1]
    exact hC (w.alloc zst) R hm1 (ex_on HX.out hl1.bel)
  have HM0 : Hid (WrM R w P mb s) := h
  obtain ⟨G, hG⟩ : ∃ G, G = LsP P R mb w x s' := ⟨_, rfl⟩
  have HG : Hid (G = LsP P R mb w x s') := hG
  rw [← hG]
  obtain ⟨xc, xd, xa, xb, xcc, xn, xo, xl, xm, xg⟩ := x
  obtain ⟨yo, hyo⟩ : ∃ y : ByteArray, y = ⟨xo.toArray⟩ := ⟨_, rfl⟩
  obtain ⟨yn, hyn⟩ : ∃ y : ByteArray, y = ⟨xm.toArray⟩ := ⟨_, rfl⟩
  have HC : Hid (Calls Tryz.prog fn #[ptr P, ptr b] W1 (fun e w' => ∃ qa na ca, e = .returned (.agg #[.int .i64 xc, .int .i64 xd, .int .i64 xa, .int .i64 xb, .int .i64 xcc, .int .i64 xn, .string yo, .int .i64 xl, .string yn, .slice qa na ca]) ∧ ∃ R', WrM R' w' P mb s' ∧ Lw P R R' W1 w' ∧ ArAt R' w' (.slice qa na ca) xg)) := by
    rw [hyo, hyn]
    refine hC1.mono ?_
    rintro e w' ⟨qa, na, ca, he, R', q1, q2, q3⟩
    exact ⟨qa, na, ca, he, R', q1, q2, q3⟩
  have HEnd : Hid (∀ R2 w2 qa na ca, WrM R2 w2 P mb s' → Lw P R R2 W1 w2 → ArAt R2 w2 (.slice qa na ca) xg → Zc w.heap.size w2 ∧ ReL w.heap.size w2 (.int .i64 xc) (.int .i64 xd) (.int .i64 xa) (.int .i64 xb) (.int .i64 xcc) (.int .i64 xn) (.string yo) (.int .i64 xl) (.string yn) (.slice qa na ca) G) := fun R2 w2 qa na ca hm hl har => last_end HM0.out hm (HW1.out ▸ hl) xc xd xa xb xcc xn xl yo yn xg qa na ca har (by rw [HG.out, hyo, hyn])
  clear hw hx hbo h hG hN hm1 hl1 hXl hC hC1 HX HW1 HM0 HG hyo hyn
  rcases hc with ⟨rfl, rfl⟩ | ⟨rfl, rfl⟩
  · go_enter Tryz.func212, Tryz.ntmps212
    go_wp2_with (go_at_call 240; fail)
    rw [← hW1]
    clear hW1 c0
    refine HC.out.mono ?_
    rintro e w2 ⟨qa, na, ca, rfl, R2, hm2, hl2, har⟩
    obtain ⟨⟨⟨z0, z1, z2, z3, z4, z5, z6, z7, z8, z9⟩, zf⟩, HR, HE⟩ := HEnd.out R2 w2 qa na ca hm2 hl2 har
    have f0 := zf 0; have f1 := zf 1; have f2 := zf 2; have f3 := zf 3; have f4 := zf 4; have f5 := zf 5; have f6 := zf 6; have f7 := zf 7; have f8 := zf 8; have f9 := zf 9
    clear hm2 hl2 zf HEnd har
    go_wp2
    refine bodyPost_ret (qQ Tryz.results212 _ _ w.heap.size _ _ _ _ _ _ _ _ _ _ rfl HR.out) rfl ?_
    exact HE.out
  · go_enter Tryz.func212, Tryz.ntmps212
    go_wp2_with (go_at_call 241; fail)
    rw [← hW1]
    clear hW1 c0
    refine HC.out.mono ?_
    rintro e w2 ⟨qa, na, ca, rfl, R2, hm2, hl2, har⟩
    obtain ⟨⟨⟨z0, z1, z2, z3, z4, z5, z6, z7, z8, z9⟩, zf⟩, HR, HE⟩ := HEnd.out R2 w2 qa na ca hm2 hl2 har
    have f0 := zf 0; have f1 := zf 1; have f2 := zf 2; have f3 := zf 3; have f4 := zf 4; have f5 := zf 5; have f6 := zf 6; have f7 := zf 7; have f8 := zf 8; have f9 := zf 9
    clear hm2 hl2 zf HEnd har
    go_wp2
    refine bodyPost_ret (qQ Tryz.results212 _ _ w.heap.size _ _ _ _ _ _ _ _ _ _ rfl HR.out) rfl ?_
    exact HE.out
theorem last_item {F : Lf} (hV : VaC F.V) {R : Nat → Nat} {w : World} {P mb : Nat} {s s1 s' : Wr} {k1 k2 k3 : IntKind} {a n : Int} {nm op : By} {l r g : Tr} {v : Value} {p q : Nat} (h : WrM R w P mb s) (hx : ExAt (Lo (P - 1)) w (ndk k1 k2 k3 8 a n nm op l r g) v) (e1 : F.V l s = some (p, s1)) (e2 : F.V r s1 = some (q, s')) :
    Calls Tryz.prog 212 #[ptr P, v] w (LsP P R mb w ⟨11, 0, (p : Int), (q : Int), 0, 0, [], 0, [], []⟩ s') := by
  obtain ⟨b, vl, vr, vg, ys, hb, rfl, hw, hbo⟩ := ndx hx
  obtain ⟨hm1, hl1⟩ := h.al zst
  obtain ⟨hN, hXl, -⟩ := hw (w.alloc zst) hl1.bel
  have c0 : (w.alloc (.cells #[.int .i64 0, .int .i64 0, .int .i64 0, .int .i64 0, .int .i64 0, .int .i64 0, .string ⟨#[]⟩, .int .i64 0, .string ⟨#[]⟩, .slice none 0 0] 125)).cell? ⟨b, 0, none⟩ = some (.int .i64 8) := hN.c0
  have c5 : (w.alloc (.cells #[.int .i64 0, .int .i64 0, .int .i64 0, .int .i64 0, .int .i64 0, .int .i64 0, .string ⟨#[]⟩, .int .i64 0, .string ⟨#[]⟩, .slice none 0 0] 125)).cell? ⟨b, 5, none⟩ = some vl := hN.c5
  obtain ⟨W1, hW1⟩ : ∃ W1, W1 = w.alloc (.cells #[.int .i64 0, .int .i64 0, .int .i64 0, .int .i64 0, .int .i64 0, .int .i64 0, .string ⟨#[]⟩, .int .i64 0, .string ⟨#[]⟩, .slice none 0 0] 125) := ⟨_, rfl⟩
  have HC : Hid (Calls Tryz.prog 163 #[ptr P, vl] W1 (LnP P R mb W1 (p : Int) s1)) := by
    show Calls _ _ _ _ _
    rw [hW1]
    exact hV R (w.alloc zst) P mb s s1 l vl p hm1 hXl e1
  have HW : Hid (∀ W, Below (P - 1) w W → W.cell? ⟨b, 6, none⟩ = some vr ∧ ExAt (Lo (P - 1)) W r vr) := fun W hW => ⟨(hw W hW).1.c6, (hw W hW).2.2.1⟩
  have HW1 : Hid (W1 = w.alloc zst) := hW1
  have HL1 : Hid (Lw P R R w W1) := HW1.out ▸ hl1
  have HM0 : Hid (WrM R w P mb s) := h
  obtain ⟨G, hG⟩ : ∃ G, G = LsP P R mb w ⟨11, 0, (p : Int), (q : Int), 0, 0, [], 0, [], []⟩ s' := ⟨_, rfl⟩
  have HG : Hid (G = LsP P R mb w ⟨11, 0, (p : Int), (q : Int), 0, 0, [], 0, [], []⟩ s') := hG
  rw [← hG]
  have HEnd : Hid (∀ R2 w2, WrM R2 w2 P mb s' → Lw P R R2 W1 w2 → Zc w.heap.size w2 ∧ ReL w.heap.size w2 (.int .i64 11) (.int .i64 0) (.int .i64 (p : Int)) (.int .i64 (q : Int)) (.int .i64 0) (.int .i64 0) (.string ⟨#[]⟩) (.int .i64 0) (.string ⟨#[]⟩) (.slice none 0 0) G) := fun R2 w2 hm hl => last_end HM0.out hm (HW1.out ▸ hl) 11 0 (p : Int) (q : Int) 0 0 0 ⟨#[]⟩ ⟨#[]⟩ [] none 0 0 (ArAt.none _ _) HG.out
  clear hw hx hbo h hG hN hm1 hl1 hXl e1 HW1 HM0 HG
  go_enter Tryz.func212, Tryz.ntmps212
  go_wp2_with (go_at_call 163; fail)
  rw [← hW1]
  clear hW1 c0 c5
  refine HC.out.mono ?_
  rintro e w2 ⟨rfl, R2, hm2, hl2⟩
  obtain ⟨c6, hXr⟩ := HW.out w2 (HL1.out.trans hl2).bel
  have HL2 : Hid (Lw P R R2 W1 w2) := hl2
  have HC2 : Hid (Calls Tryz.prog 163 #[ptr P, vr] w2 (LnP P R2 mb w2 (q : Int) s')) := hV R2 w2 P mb s1 s' r vr q hm2 hXr e2
  clear hm2 hl2 hXr
  go_wp2_with (go_at_call 163; fail)
  refine HC2.out.mono ?_
  rintro e w3 ⟨rfl, R3, hm3, hl3⟩
  obtain ⟨⟨⟨z0, z1, z2, z3, z4, z5, z6, z7, z8, z9⟩, zf⟩, HR, HE⟩ := HEnd.out R3 w3 hm3 (HL2.out.trans hl3)
  have f0 := zf 0; have f1 := zf 1; have f2 := zf 2; have f3 := zf 3; have f4 := zf 4; have f5 := zf 5; have f6 := zf 6; have f7 := zf 7; have f8 := zf 8; have f9 := zf 9
  clear hm3 hl3 zf HEnd c6
  go_wp2
  refine bodyPost_ret (qQ Tryz.results212 _ _ w.heap.size _ _ _ _ _ _ _ _ _ _ rfl HR.out) rfl ?_
  exact HE.out
end Go.Proofs.YtnfhpdbbfejioaaGreatDoor.Mid
