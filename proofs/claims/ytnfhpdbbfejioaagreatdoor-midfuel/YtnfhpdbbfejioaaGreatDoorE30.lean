/- LU -/
import Derived.Test.YtnfhpdbbfejioaaGreatDoorE28
namespace Go.Proofs.YtnfhpdbbfejioaaGreatDoor.Mid
set_option linter.unusedVariables false
set_option linter.unusedSimpArgs false
set_option maxRecDepth 100000
set_option maxHeartbeats 16000000
open Go Go.RowKit
def UsE (b P : Nat) (u1 u2 : Nat) (W : World) (G : Ending → World → Prop) : Prop :=
  ((W.cell? ⟨b, 0, none⟩ = some (.int .i64 0) ∧ W.cell? ⟨b, 1, none⟩ = some (.int .i64 (u1 : Int)) ∧ W.cell? ⟨b, 2, none⟩ = some (.int .i64 (u2 : Int))) ∧ (∃ x6 x7 x8, W.cell? ⟨P, 6, none⟩ = some x6 ∧ W.cell? ⟨P, 7, none⟩ = some x7 ∧ W.cell? ⟨P, 8, none⟩ = some x8) ∧ W.frozen? ⟨P, 6, none⟩ = false ∧ W.frozen? ⟨P, 7, none⟩ = false ∧ W.frozen? ⟨P, 8, none⟩ = false) ∧ Hid (G (.returned (.tuple #[])) (((W.setCell ⟨P, 6, none⟩ (.int .i64 0)).setCell ⟨P, 7, none⟩ (.int .i64 (u1 : Int))).setCell ⟨P, 8, none⟩ (.int .i64 (u2 : Int))))
theorem us_end {R R2 : Nat → Nat} {w W : World} {P mb : Nat} {s s2 s' : Wr} {u1 u2 : Nat} (h : WrM R w P mb s) (h1 : u1 ≤ 100001) (h2 : u2 ≤ 100001) (hm : WrM R2 W P mb s2) (hl : Lw P R R2 (w.alloc (.cells #[.int .i64 0, .int .i64 (u1 : Int), .int .i64 (u2 : Int)] 157)) W) (hs : s' = { s2 with u1 := u1, u2 := u2 }) {G : Ending → World → Prop} (hG : G = LuP P R mb w s') : UsE w.heap.size P u1 u2 W G := by
  obtain ⟨g1, g2, g3, g4⟩ := box_new h (Lw.refl P R w) #[.int .i64 0, .int .i64 (u1 : Int), .int .i64 (u2 : Int)] 157
  obtain ⟨g5, g6⟩ := hl.box g3 g4
  obtain ⟨k1, k2⟩ := us_back hm (g2.trans hl) h1 h2
  obtain ⟨_, _, _, _, hh⟩ := hm
  refine ⟨⟨⟨z_ (i := 0) g5 rfl, z_ (i := 1) g5 rfl, z_ (i := 2) g5 rfl⟩, ⟨_, _, _, z_ (i := 6) hh.blk rfl, z_ (i := 7) hh.blk rfl, z_ (i := 8) hh.blk rfl⟩, zb hh.blk 6, zb hh.blk 7, zb hh.blk 8⟩, ?_⟩
  show G _ _
  rw [hG, hs]
  exact ⟨rfl, R2, k1, k2⟩
theorem us_mid {R R2 : Nat → Nat} {w W : World} {P mb : Nat} {s s2 : Wr} {u1 u2 : Nat} (h : WrM R w P mb s) (h1 : u1 ≤ 100001) (h2 : u2 ≤ 100001) (hm : WrM R2 W P mb s2) (hl : Lw P R R2 (w.alloc (.cells #[.int .i64 0, .int .i64 (u1 : Int), .int .i64 (u2 : Int)] 157)) W) : ((W.cell? ⟨w.heap.size, 0, none⟩ = some (.int .i64 0) ∧ W.cell? ⟨w.heap.size, 1, none⟩ = some (.int .i64 (u1 : Int)) ∧ W.cell? ⟨w.heap.size, 2, none⟩ = some (.int .i64 (u2 : Int))) ∧ (∃ x6 x7 x8, W.cell? ⟨P, 6, none⟩ = some x6 ∧ W.cell? ⟨P, 7, none⟩ = some x7 ∧ W.cell? ⟨P, 8, none⟩ = some x8) ∧ W.frozen? ⟨P, 6, none⟩ = false ∧ W.frozen? ⟨P, 7, none⟩ = false ∧ W.frozen? ⟨P, 8, none⟩ = false) ∧ WrM R2 (((W.setCell ⟨P, 6, none⟩ (.int .i64 0)).setCell ⟨P, 7, none⟩ (.int .i64 (u1 : Int))).setCell ⟨P, 8, none⟩ (.int .i64 (u2 : Int))) P mb { s2 with u1 := u1, u2 := u2 } ∧ Lw P R2 R2 W (((W.setCell ⟨P, 6, none⟩ (.int .i64 0)).setCell ⟨P, 7, none⟩ (.int .i64 (u1 : Int))).setCell ⟨P, 8, none⟩ (.int .i64 (u2 : Int))) := by
  obtain ⟨g1, g2, g3, g4⟩ := box_new h (Lw.refl P R w) #[.int .i64 0, .int .i64 (u1 : Int), .int .i64 (u2 : Int)] 157
  obtain ⟨g5, g6⟩ := hl.box g3 g4
  obtain ⟨k1, k2⟩ := us_back hm (Lw.refl P R2 W) h1 h2
  obtain ⟨_, _, _, _, hh⟩ := hm
  exact ⟨⟨⟨z_ (i := 0) g5 rfl, z_ (i := 1) g5 rfl, z_ (i := 2) g5 rfl⟩, ⟨_, _, _, z_ (i := 6) hh.blk rfl, z_ (i := 7) hh.blk rfl, z_ (i := 8) hh.blk rfl⟩, zb hh.blk 6, zb hh.blk 7, zb hh.blk 8⟩, k1, k2⟩
theorem unlL_some {F : Lf} {t : Tr} {e : Nat} {s s' : Wr} {u0 : Unit} (h : unlL F t e s = some (u0, s')) : ∃ (k1 k2 k3 : IntKind) (c a n : Int) (nm op : By) (l r g : Tr) (s2 : Wr), t = ndk k1 k2 k3 c a n nm op l r g ∧ s' = { s2 with u1 := s.u1, u2 := s.u2 } ∧
    ((c = 4 ∧ op = [33] ∧ ∃ u, F.W l e s = some (u, s2)) ∨
     (c = 3 ∧ op = [38, 38] ∧ ∃ u s1 v, F.U l e s = some (u, s1) ∧ F.U r e s1 = some (v, s2)) ∨
     (c = 3 ∧ op = [124, 124] ∧ ∃ on s1 u s3 v s4 x, qR s = some (on, s1) ∧ F.W l on s1 = some (u, s3) ∧ F.U r e s3 = some (v, s4) ∧ putL on s4 = some (x, s2)) ∨
     (¬ (c = 4 ∧ op = [33]) ∧ ¬ (c = 3 ∧ op = [38, 38]) ∧ ¬ (c = 3 ∧ op = [124, 124]) ∧ ∃ p s1 u, F.V (ndk k1 k2 k3 c a n nm op l r g) s = some (p, s1) ∧ qU { ms0 with code := 5, a := (p : Int), label := (e : Int) } s1 = some (u, s2))) := by
  unfold unlL at h
  split at h
  · rename_i k1 c k2 a k3 n nm op l r g
    obtain ⟨u, s2, h1, h2⟩ := zg h
    injection h2 with h2
    injection h2 with _ h2
    refine ⟨k1, k2, k3, c, a, n, nm, op, l, r, g, s2, rfl, h2.symm, ?_⟩
    split at h1
    · rename_i hc
      exact .inl ⟨hc.1, hc.2, u, h1⟩
    · rename_i hc1
      split at h1
      · rename_i hc
        obtain ⟨x, s3, h3, h4⟩ := zg h1
        exact .inr (.inl ⟨hc.1, hc.2, x, s3, u, h3, h4⟩)
      · rename_i hc2
        split at h1
        · rename_i hc
          obtain ⟨on, s3, h3, h4⟩ := zg h1
          obtain ⟨x, s5, h5, h6⟩ := zg h4
          obtain ⟨y, s7, h7, h8⟩ := zg h6
          exact .inr (.inr (.inl ⟨hc.1, hc.2, on, s3, x, s5, y, s7, u, h3, h5, h7, h8⟩))
        · rename_i hc3
          obtain ⟨p, s3, h3, h4⟩ := zg h1
          exact .inr (.inr (.inr ⟨hc1, hc2, hc3, p, s3, u, h3, h4⟩))
  · cases h
theorem whnL_some {F : Lf} {t : Tr} {e : Nat} {s s' : Wr} {u0 : Unit} (h : whnL F t e s = some (u0, s')) : ∃ (k1 k2 k3 : IntKind) (c a n : Int) (nm op : By) (l r g : Tr) (s2 : Wr), t = ndk k1 k2 k3 c a n nm op l r g ∧ s' = { s2 with u1 := s.u1, u2 := s.u2 } ∧
    ((c = 4 ∧ op = [33] ∧ ∃ u, F.U l e s = some (u, s2)) ∨
     (c = 3 ∧ op = [124, 124] ∧ ∃ u s1 v, F.W l e s = some (u, s1) ∧ F.W r e s1 = some (v, s2)) ∨
     (c = 3 ∧ op = [38, 38] ∧ ∃ on s1 u s3 v s4 x, qR s = some (on, s1) ∧ F.U l on s1 = some (u, s3) ∧ F.W r e s3 = some (v, s4) ∧ putL on s4 = some (x, s2)) ∨
     (¬ (c = 4 ∧ op = [33]) ∧ ¬ (c = 3 ∧ op = [124, 124]) ∧ ¬ (c = 3 ∧ op = [38, 38]) ∧ ∃ p s1 q s3 z s4 u s5 v, F.V (ndk k1 k2 k3 c a n nm op l r g) s = some (p, s1) ∧ take1 { s1 with u1 := s.u1, u2 := s.u2 } = some (q, s3) ∧ zeroL s3 = some (z, s4) ∧ qU { ms0 with code := 3, op := [61, 61], dst := (q : Int), a := (p : Int), b := (z : Int) } s4 = some (u, s5) ∧ qU { ms0 with code := 5, a := (q : Int), label := (e : Int) } s5 = some (v, s2))) := by
  unfold whnL at h
  split at h
  · rename_i k1 c k2 a k3 n nm op l r g
    obtain ⟨u, s2, h1, h2⟩ := zg h
    injection h2 with h2
    injection h2 with _ h2
    refine ⟨k1, k2, k3, c, a, n, nm, op, l, r, g, s2, rfl, h2.symm, ?_⟩
    split at h1
    · rename_i hc
      exact .inl ⟨hc.1, hc.2, u, h1⟩
    · rename_i hc1
      split at h1
      · rename_i hc
        obtain ⟨x, s3, h3, h4⟩ := zg h1
        exact .inr (.inl ⟨hc.1, hc.2, x, s3, u, h3, h4⟩)
      · rename_i hc2
        split at h1
        · rename_i hc
          obtain ⟨on, s3, h3, h4⟩ := zg h1
          obtain ⟨x, s5, h5, h6⟩ := zg h4
          obtain ⟨y, s7, h7, h8⟩ := zg h6
          exact .inr (.inr (.inl ⟨hc.1, hc.2, on, s3, x, s5, y, s7, u, h3, h5, h7, h8⟩))
        · rename_i hc3
          obtain ⟨p, s3, h3, h4⟩ := zg h1
          obtain ⟨x, s4, h5, h6⟩ := zg h4
          injection h5 with h5
          injection h5 with _ h5
          subst h5
          obtain ⟨q, s6, h7, h8⟩ := zg h6
          obtain ⟨z, s7, h9, h10⟩ := zg h8
          obtain ⟨y, s8, h11, h12⟩ := zg h10
          exact .inr (.inr (.inr ⟨hc1, hc2, hc3, p, s3, q, s6, z, s7, y, s8, u, h3, h7, h9, h11, h12⟩))
  · cases h
theorem unl_of {F : Lf} (hV : VaC F.V) (hU : UnC 215 F.U) (hW : UnC 242 F.W) : UnC 215 (unlL F) := by
  intro R w P mb s s' t v e u0 h hx hu
  obtain ⟨k1, k2, k3, c, a, n, nm, op, l, r, g, s2, rfl, hs', hcase⟩ := unlL_some hu
  have HX : Hid (∀ W, Below (P - 1) w W → ExAt (Lo (P - 1)) W (ndk k1 k2 k3 c a n nm op l r g) v) := fun W hW => ex_on hx hW
  obtain ⟨b, vl, vr, vg, ys, hb, rfl, hw, hbo⟩ := ndx hx
  obtain ⟨yo, hyo⟩ : ∃ y : ByteArray, y = ⟨op.toArray⟩ := ⟨_, rfl⟩
  have hyl : yo.toList = op := by rw [hyo, op_tl]
  have HW : Hid (∀ W, Below (P - 1) w W → W.cell? ⟨b, 0, none⟩ = some (.int .i64 c) ∧ W.cell? ⟨b, 4, none⟩ = some (.string yo) ∧ W.cell? ⟨b, 5, none⟩ = some vl ∧ W.cell? ⟨b, 6, none⟩ = some vr) := fun W hW => ⟨(hw W hW).1.c0, by rw [hyo]; exact (hw W hW).1.c4, (hw W hW).1.c5, (hw W hW).1.c6⟩
  have HXl : Hid (∀ W, Below (P - 1) w W → ExAt (Lo (P - 1)) W l vl) := fun W hW => (hw W hW).2.1
  have HXr : Hid (∀ W, Below (P - 1) w W → ExAt (Lo (P - 1)) W r vr) := fun W hW => (hw W hW).2.2.1
  obtain ⟨G, hG⟩ : ∃ G, G = LuP P R mb w s' := ⟨_, rfl⟩
  obtain ⟨u1, hu1⟩ : ∃ u1, u1 = s.u1 := ⟨_, rfl⟩
  obtain ⟨u2, hu2⟩ : ∃ u2, u2 = s.u2 := ⟨_, rfl⟩
  rw [← hu1, ← hu2] at hs'
  obtain ⟨hm1, hl1⟩ := h.al (.cells #[.int .i64 0, .int .i64 (u1 : Int), .int .i64 (u2 : Int)] 157)
  obtain ⟨W1, hW1⟩ : ∃ W1, W1 = w.alloc (.cells #[.int .i64 0, .int .i64 (u1 : Int), .int .i64 (u2 : Int)] 157) := ⟨_, rfl⟩
  have HEnd : Hid (∀ R2 w2, WrM R2 w2 P mb s2 → Lw P R R2 W1 w2 → UsE w.heap.size P u1 u2 w2 G) := fun R2 w2 hm hl => us_end h (by rw [hu1]; obtain ⟨_, _, _, _, hh⟩ := h; exact hh.ok.u1) (by rw [hu2]; obtain ⟨_, _, _, _, hh⟩ := h; exact hh.ok.u2) hm (hW1 ▸ hl) hs' hG
  have HMid : Hid (∀ R2 w2 s9, WrM R2 w2 P mb s9 → Lw P R R2 W1 w2 → ((w2.cell? ⟨w.heap.size, 0, none⟩ = some (.int .i64 0) ∧ w2.cell? ⟨w.heap.size, 1, none⟩ = some (.int .i64 (u1 : Int)) ∧ w2.cell? ⟨w.heap.size, 2, none⟩ = some (.int .i64 (u2 : Int))) ∧ (∃ x6 x7 x8, w2.cell? ⟨P, 6, none⟩ = some x6 ∧ w2.cell? ⟨P, 7, none⟩ = some x7 ∧ w2.cell? ⟨P, 8, none⟩ = some x8) ∧ w2.frozen? ⟨P, 6, none⟩ = false ∧ w2.frozen? ⟨P, 7, none⟩ = false ∧ w2.frozen? ⟨P, 8, none⟩ = false) ∧ WrM R2 (((w2.setCell ⟨P, 6, none⟩ (.int .i64 0)).setCell ⟨P, 7, none⟩ (.int .i64 (u1 : Int))).setCell ⟨P, 8, none⟩ (.int .i64 (u2 : Int))) P mb { s9 with u1 := s.u1, u2 := s.u2 } ∧ Lw P R2 R2 w2 (((w2.setCell ⟨P, 6, none⟩ (.int .i64 0)).setCell ⟨P, 7, none⟩ (.int .i64 (u1 : Int))).setCell ⟨P, 8, none⟩ (.int .i64 (u2 : Int)))) := fun R2 w2 s9 hm hl => by rw [← hu1, ← hu2]; exact us_mid h (by rw [hu1]; obtain ⟨_, _, _, _, hh⟩ := h; exact hh.ok.u1) (by rw [hu2]; obtain ⟨_, _, _, _, hh⟩ := h; exact hh.ok.u2) hm (hW1 ▸ hl)
  rw [← hW1] at hm1 hl1
  have HM1 : Hid (WrM R W1 P mb s) := hm1
  have HL0 : Hid (Lw P R R w W1) := hl1
  obtain ⟨d6, d7, d8⟩ : w.cell? ⟨P, 6, none⟩ = some (.int .i64 0) ∧ w.cell? ⟨P, 7, none⟩ = some (.int .i64 (u1 : Int)) ∧ w.cell? ⟨P, 8, none⟩ = some (.int .i64 (u2 : Int)) := by
    obtain ⟨_, _, _, _, hh⟩ := h
    rw [hu1, hu2]
    exact ⟨z_ (i := 6) hh.blk rfl, z_ (i := 7) hh.blk rfl, z_ (i := 8) hh.blk rfl⟩
  obtain ⟨c0, c4, c5, c6⟩ := HW.out W1 HL0.out.bel
  rw [hW1] at c0 c4 c5 c6
  rw [← hG]
  have HLw : Hid (Lw P R R w W1) := hl1
  have HL1 : Hid (Lw P R R W1 W1) := Lw.refl _ _ _
  clear hx hw hbo hG hu h hm1 hl1 hyo hs' HL0 hu1 hu2
  rcases hcase with ⟨rfl, hop, u, e1⟩ | ⟨rfl, hop, u, s1, v, e1, e2⟩ | ⟨rfl, hop, on, s1, u, s3, v, s4, x, e1, e2, e3, e4⟩ | ⟨h1, h2, h3, p, s1, u, e1, e2⟩
  · have t1 : (yo.toList == [33]) = true := by rw [hyl, hop]; rfl
    clear hyl hop
    go_enter Tryz.func215, Tryz.ntmps215
    have HC2 : Hid (Calls Tryz.prog 242 #[ptr P, vl, .int .i64 (e : Int)] W1 (LuP P R mb W1 s2)) := hW R W1 P mb s s2 l vl e u HM1.out (HXl.out W1 ((HLw.out.trans HL1.out).bel)) e1
    go_wp2_with (go_at_call 242; fail)
    rw [← hW1]
    clear hW1 c0 c4 c5 c6 d6 d7 d8
    refine HC2.out.mono ?_
    rintro e w2 ⟨rfl, R2, hm2, hl2⟩
    have HM2 : Hid (WrM R2 w2 P mb _) := hm2
    have HL2 : Hid (Lw P R R2 W1 w2) := HL1.out.trans hl2
    clear hm2 hl2 HC2
    obtain ⟨⟨⟨y0, y1, y2⟩, ⟨x6, x7, x8, p6, p7, p8⟩, f6, f7, f8⟩, HE⟩ := HEnd.out R2 w2 HM2.out HL2.out
    obtain ⟨c0, c4, c5, c6⟩ := HW.out w2 (HLw.out.trans HL2.out).bel
    clear HEnd
    go_wp2
    go_end0
    exact HE.out
  · have t1 : (yo.toList == [38, 38]) = true := by rw [hyl, hop]; rfl
    clear hyl hop
    go_enter Tryz.func215, Tryz.ntmps215
    have HC2 : Hid (Calls Tryz.prog 215 #[ptr P, vl, .int .i64 (e : Int)] W1 (LuP P R mb W1 s1)) := hU R W1 P mb s s1 l vl e u HM1.out (HXl.out W1 ((HLw.out.trans HL1.out).bel)) e1
    go_wp2_with (go_at_call 215; fail)
    rw [← hW1]
    clear hW1 c0 c4 c5 c6 d6 d7 d8
    refine HC2.out.mono ?_
    rintro e w2 ⟨rfl, R2, hm2, hl2⟩
    have HM2 : Hid (WrM R2 w2 P mb _) := hm2
    have HL2 : Hid (Lw P R R2 W1 w2) := HL1.out.trans hl2
    clear hm2 hl2 HC2
    have HC3 : Hid (Calls Tryz.prog 215 #[ptr P, vr, .int .i64 (e : Int)] w2 (LuP P R2 mb w2 s2)) := hU R2 w2 P mb s1 s2 r vr e v HM2.out (HXr.out w2 ((HLw.out.trans HL2.out).bel)) e2
    obtain ⟨c0, c4, c5, c6⟩ := HW.out w2 (HLw.out.trans HL2.out).bel
    go_wp2_with (go_at_call 215; fail)
    clear c0 c4 c5 c6
    refine HC3.out.mono ?_
    rintro e w3 ⟨rfl, R3, hm3, hl3⟩
    have HM3 : Hid (WrM R3 w3 P mb _) := hm3
    have HL3 : Hid (Lw P R R3 W1 w3) := HL2.out.trans hl3
    clear hm3 hl3 HC3
    obtain ⟨⟨⟨y0, y1, y2⟩, ⟨x6, x7, x8, p6, p7, p8⟩, f6, f7, f8⟩, HE⟩ := HEnd.out R3 w3 HM3.out HL3.out
    obtain ⟨c0, c4, c5, c6⟩ := HW.out w3 (HLw.out.trans HL3.out).bel
    clear HEnd
    go_wp2
    go_end0
    exact HE.out
  · have t1 : (yo.toList == [38, 38]) = false := by rw [hyl, hop]; rfl
    have t2 : (yo.toList == [124, 124]) = true := by rw [hyl, hop]; rfl
    clear hyl hop
    go_enter Tryz.func215, Tryz.ntmps215
    have HC2 : Hid (Calls Tryz.prog 214 #[ptr P] W1 (LnP P R mb W1 (on : Int) s1)) := label_any HM1.out e1
    go_wp2_with (go_at_call 214; fail)
    rw [← hW1]
    clear hW1 c0 c4 c5 c6 d6 d7 d8
    refine HC2.out.mono ?_
    rintro e w2 ⟨rfl, R2, hm2, hl2⟩
    have HM2 : Hid (WrM R2 w2 P mb _) := hm2
    have HL2 : Hid (Lw P R R2 W1 w2) := HL1.out.trans hl2
    clear hm2 hl2 HC2
    have HC3 : Hid (Calls Tryz.prog 242 #[ptr P, vl, .int .i64 (on : Int)] w2 (LuP P R2 mb w2 s3)) := hW R2 w2 P mb s1 s3 l vl on u HM2.out (HXl.out w2 ((HLw.out.trans HL2.out).bel)) e2
    obtain ⟨c0, c4, c5, c6⟩ := HW.out w2 (HLw.out.trans HL2.out).bel
    go_wp2_with (go_at_call 242; fail)
    clear c0 c4 c5 c6
    refine HC3.out.mono ?_
    rintro e w3 ⟨rfl, R3, hm3, hl3⟩
    have HM3 : Hid (WrM R3 w3 P mb _) := hm3
    have HL3 : Hid (Lw P R R3 W1 w3) := HL2.out.trans hl3
    clear hm3 hl3 HC3
    have HC4 : Hid (Calls Tryz.prog 215 #[ptr P, vr, .int .i64 (e : Int)] w3 (LuP P R3 mb w3 s4)) := hU R3 w3 P mb s3 s4 r vr e v HM3.out (HXr.out w3 ((HLw.out.trans HL3.out).bel)) e3
    obtain ⟨c0, c4, c5, c6⟩ := HW.out w3 (HLw.out.trans HL3.out).bel
    go_wp2_with (go_at_call 215; fail)
    clear c0 c4 c5 c6
    refine HC4.out.mono ?_
    rintro e w4 ⟨rfl, R4, hm4, hl4⟩
    have HM4 : Hid (WrM R4 w4 P mb _) := hm4
    have HL4 : Hid (Lw P R R4 W1 w4) := HL3.out.trans hl4
    clear hm4 hl4 HC4
    have HC5 : Hid (Calls Tryz.prog 216 #[ptr P, .int .i64 (on : Int)] w4 (LuP P R4 mb w4 s2)) := put_any HM4.out e4
    obtain ⟨c0, c4, c5, c6⟩ := HW.out w4 (HLw.out.trans HL4.out).bel
    go_wp2_with (go_at_call 216; fail)
    clear c0 c4 c5 c6
    refine HC5.out.mono ?_
    rintro e w5 ⟨rfl, R5, hm5, hl5⟩
    have HM5 : Hid (WrM R5 w5 P mb _) := hm5
    have HL5 : Hid (Lw P R R5 W1 w5) := HL4.out.trans hl5
    clear hm5 hl5 HC5
    obtain ⟨⟨⟨y0, y1, y2⟩, ⟨x6, x7, x8, p6, p7, p8⟩, f6, f7, f8⟩, HE⟩ := HEnd.out R5 w5 HM5.out HL5.out
    obtain ⟨c0, c4, c5, c6⟩ := HW.out w5 (HLw.out.trans HL5.out).bel
    clear HEnd
    go_wp2
    go_end0
    exact HE.out
  · by_cases h4 : c = 4
    · have t1 : (yo.toList == [33]) = false := by rw [hyl]; simp; exact fun e => h1 ⟨h4, e⟩
      clear hyl h1 h2 h3
      subst h4
      go_enter Tryz.func215, Tryz.ntmps215
      have HC2 : Hid (Calls Tryz.prog 163 #[ptr P, ptr b] W1 (LnP P R mb W1 (p : Int) s1)) := hV R W1 P mb s s1 _ (ptr b) p HM1.out (HX.out W1 ((HLw.out.trans HL1.out).bel)) e1
      go_wp2_with (go_at_call 163; fail)
      rw [← hW1]
      clear hW1 c0 c4 c5 c6 d6 d7 d8
      refine HC2.out.mono ?_
      rintro e w2 ⟨rfl, R2, hm2, hl2⟩
      have HM2 : Hid (WrM R2 w2 P mb _) := hm2
      have HL2 : Hid (Lw P R R2 W1 w2) := HL1.out.trans hl2
      clear hm2 hl2 HC2
      have HC3 : Hid (Calls Tryz.prog 70 #[ptr P, .agg #[.int .i64 5, .int .i64 0, .int .i64 (p : Int), .int .i64 0, .int .i64 0, .int .i64 0, .string ⟨#[]⟩, .int .i64 (e : Int), .string ⟨#[]⟩, .slice none 0 0]] w2 (LuP P R2 mb w2 s2)) := add_y 5 0 (p : Int) 0 0 0 ⟨#[]⟩ (e : Int) ⟨#[]⟩ [] none 0 0 HM2.out (ArAt.none _ _) e2
      obtain ⟨c0, c4, c5, c6⟩ := HW.out w2 (HLw.out.trans HL2.out).bel
      go_wp2_with (go_at_call 70; fail)
      clear c0 c4 c5 c6
      refine HC3.out.mono ?_
      rintro e w3 ⟨rfl, R3, hm3, hl3⟩
      have HM3 : Hid (WrM R3 w3 P mb _) := hm3
      have HL3 : Hid (Lw P R R3 W1 w3) := HL2.out.trans hl3
      clear hm3 hl3 HC3
      obtain ⟨⟨⟨y0, y1, y2⟩, ⟨x6, x7, x8, p6, p7, p8⟩, f6, f7, f8⟩, HE⟩ := HEnd.out R3 w3 HM3.out HL3.out
      obtain ⟨c0, c4, c5, c6⟩ := HW.out w3 (HLw.out.trans HL3.out).bel
      clear HEnd
      go_wp2
      go_end0
      exact HE.out
    · have q4 : ((c : Int) == 4) = false := by simpa using h4
      by_cases h5 : c = 3
      · have t1 : (yo.toList == [38, 38]) = false := by rw [hyl]; simp; exact fun e => h2 ⟨h5, e⟩
        have t2 : (yo.toList == [124, 124]) = false := by rw [hyl]; simp; exact fun e => h3 ⟨h5, e⟩
        clear hyl h1 h2 h3 h4 q4
        subst h5
        go_enter Tryz.func215, Tryz.ntmps215
        have HC2 : Hid (Calls Tryz.prog 163 #[ptr P, ptr b] W1 (LnP P R mb W1 (p : Int) s1)) := hV R W1 P mb s s1 _ (ptr b) p HM1.out (HX.out W1 ((HLw.out.trans HL1.out).bel)) e1
        go_wp2_with (go_at_call 163; fail)
        rw [← hW1]
        clear hW1 c0 c4 c5 c6 d6 d7 d8
        refine HC2.out.mono ?_
        rintro e w2 ⟨rfl, R2, hm2, hl2⟩
        have HM2 : Hid (WrM R2 w2 P mb _) := hm2
        have HL2 : Hid (Lw P R R2 W1 w2) := HL1.out.trans hl2
        clear hm2 hl2 HC2
        have HC3 : Hid (Calls Tryz.prog 70 #[ptr P, .agg #[.int .i64 5, .int .i64 0, .int .i64 (p : Int), .int .i64 0, .int .i64 0, .int .i64 0, .string ⟨#[]⟩, .int .i64 (e : Int), .string ⟨#[]⟩, .slice none 0 0]] w2 (LuP P R2 mb w2 s2)) := add_y 5 0 (p : Int) 0 0 0 ⟨#[]⟩ (e : Int) ⟨#[]⟩ [] none 0 0 HM2.out (ArAt.none _ _) e2
        obtain ⟨c0, c4, c5, c6⟩ := HW.out w2 (HLw.out.trans HL2.out).bel
        go_wp2_with (go_at_call 70; fail)
        clear c0 c4 c5 c6
        refine HC3.out.mono ?_
        rintro e w3 ⟨rfl, R3, hm3, hl3⟩
        have HM3 : Hid (WrM R3 w3 P mb _) := hm3
        have HL3 : Hid (Lw P R R3 W1 w3) := HL2.out.trans hl3
        clear hm3 hl3 HC3
        obtain ⟨⟨⟨y0, y1, y2⟩, ⟨x6, x7, x8, p6, p7, p8⟩, f6, f7, f8⟩, HE⟩ := HEnd.out R3 w3 HM3.out HL3.out
        obtain ⟨c0, c4, c5, c6⟩ := HW.out w3 (HLw.out.trans HL3.out).bel
        clear HEnd
        go_wp2
        go_end0
        exact HE.out
      · have q3 : ((c : Int) == 3) = false := by simpa using h5
        clear hyl h1 h2 h3 h4 h5
        go_enter Tryz.func215, Tryz.ntmps215
        have HC2 : Hid (Calls Tryz.prog 163 #[ptr P, ptr b] W1 (LnP P R mb W1 (p : Int) s1)) := hV R W1 P mb s s1 _ (ptr b) p HM1.out (HX.out W1 ((HLw.out.trans HL1.out).bel)) e1
        go_wp2_with (go_at_call 163; fail)
        rw [← hW1]
        clear hW1 c0 c4 c5 c6 d6 d7 d8
        refine HC2.out.mono ?_
        rintro e w2 ⟨rfl, R2, hm2, hl2⟩
        have HM2 : Hid (WrM R2 w2 P mb _) := hm2
        have HL2 : Hid (Lw P R R2 W1 w2) := HL1.out.trans hl2
        clear hm2 hl2 HC2
        have HC3 : Hid (Calls Tryz.prog 70 #[ptr P, .agg #[.int .i64 5, .int .i64 0, .int .i64 (p : Int), .int .i64 0, .int .i64 0, .int .i64 0, .string ⟨#[]⟩, .int .i64 (e : Int), .string ⟨#[]⟩, .slice none 0 0]] w2 (LuP P R2 mb w2 s2)) := add_y 5 0 (p : Int) 0 0 0 ⟨#[]⟩ (e : Int) ⟨#[]⟩ [] none 0 0 HM2.out (ArAt.none _ _) e2
        obtain ⟨c0, c4, c5, c6⟩ := HW.out w2 (HLw.out.trans HL2.out).bel
        go_wp2_with (go_at_call 70; fail)
        clear c0 c4 c5 c6
        refine HC3.out.mono ?_
        rintro e w3 ⟨rfl, R3, hm3, hl3⟩
        have HM3 : Hid (WrM R3 w3 P mb _) := hm3
        have HL3 : Hid (Lw P R R3 W1 w3) := HL2.out.trans hl3
        clear hm3 hl3 HC3
        obtain ⟨⟨⟨y0, y1, y2⟩, ⟨x6, x7, x8, p6, p7, p8⟩, f6, f7, f8⟩, HE⟩ := HEnd.out R3 w3 HM3.out HL3.out
        obtain ⟨c0, c4, c5, c6⟩ := HW.out w3 (HLw.out.trans HL3.out).bel
        clear HEnd
        go_wp2
        go_end0
        exact HE.out
theorem whn_of {F : Lf} (hV : VaC F.V) (hU : UnC 215 F.U) (hW : UnC 242 F.W) : UnC 242 (whnL F) := by
  intro R w P mb s s' t v e u0 h hx hu
  obtain ⟨k1, k2, k3, c, a, n, nm, op, l, r, g, s2, rfl, hs', hcase⟩ := whnL_some hu
  have HX : Hid (∀ W, Below (P - 1) w W → ExAt (Lo (P - 1)) W (ndk k1 k2 k3 c a n nm op l r g) v) := fun W hW => ex_on hx hW
  obtain ⟨b, vl, vr, vg, ys, hb, rfl, hw, hbo⟩ := ndx hx
  obtain ⟨yo, hyo⟩ : ∃ y : ByteArray, y = ⟨op.toArray⟩ := ⟨_, rfl⟩
  have hyl : yo.toList = op := by rw [hyo, op_tl]
  have HW : Hid (∀ W, Below (P - 1) w W → W.cell? ⟨b, 0, none⟩ = some (.int .i64 c) ∧ W.cell? ⟨b, 4, none⟩ = some (.string yo) ∧ W.cell? ⟨b, 5, none⟩ = some vl ∧ W.cell? ⟨b, 6, none⟩ = some vr) := fun W hW => ⟨(hw W hW).1.c0, by rw [hyo]; exact (hw W hW).1.c4, (hw W hW).1.c5, (hw W hW).1.c6⟩
  have HXl : Hid (∀ W, Below (P - 1) w W → ExAt (Lo (P - 1)) W l vl) := fun W hW => (hw W hW).2.1
  have HXr : Hid (∀ W, Below (P - 1) w W → ExAt (Lo (P - 1)) W r vr) := fun W hW => (hw W hW).2.2.1
  obtain ⟨G, hG⟩ : ∃ G, G = LuP P R mb w s' := ⟨_, rfl⟩
  obtain ⟨u1, hu1⟩ : ∃ u1, u1 = s.u1 := ⟨_, rfl⟩
  obtain ⟨u2, hu2⟩ : ∃ u2, u2 = s.u2 := ⟨_, rfl⟩
  rw [← hu1, ← hu2] at hs'
  obtain ⟨hm1, hl1⟩ := h.al (.cells #[.int .i64 0, .int .i64 (u1 : Int), .int .i64 (u2 : Int)] 157)
  obtain ⟨W1, hW1⟩ : ∃ W1, W1 = w.alloc (.cells #[.int .i64 0, .int .i64 (u1 : Int), .int .i64 (u2 : Int)] 157) := ⟨_, rfl⟩
  have HEnd : Hid (∀ R2 w2, WrM R2 w2 P mb s2 → Lw P R R2 W1 w2 → UsE w.heap.size P u1 u2 w2 G) := fun R2 w2 hm hl => us_end h (by rw [hu1]; obtain ⟨_, _, _, _, hh⟩ := h; exact hh.ok.u1) (by rw [hu2]; obtain ⟨_, _, _, _, hh⟩ := h; exact hh.ok.u2) hm (hW1 ▸ hl) hs' hG
  have HMid : Hid (∀ R2 w2 s9, WrM R2 w2 P mb s9 → Lw P R R2 W1 w2 → ((w2.cell? ⟨w.heap.size, 0, none⟩ = some (.int .i64 0) ∧ w2.cell? ⟨w.heap.size, 1, none⟩ = some (.int .i64 (u1 : Int)) ∧ w2.cell? ⟨w.heap.size, 2, none⟩ = some (.int .i64 (u2 : Int))) ∧ (∃ x6 x7 x8, w2.cell? ⟨P, 6, none⟩ = some x6 ∧ w2.cell? ⟨P, 7, none⟩ = some x7 ∧ w2.cell? ⟨P, 8, none⟩ = some x8) ∧ w2.frozen? ⟨P, 6, none⟩ = false ∧ w2.frozen? ⟨P, 7, none⟩ = false ∧ w2.frozen? ⟨P, 8, none⟩ = false) ∧ WrM R2 (((w2.setCell ⟨P, 6, none⟩ (.int .i64 0)).setCell ⟨P, 7, none⟩ (.int .i64 (u1 : Int))).setCell ⟨P, 8, none⟩ (.int .i64 (u2 : Int))) P mb { s9 with u1 := s.u1, u2 := s.u2 } ∧ Lw P R2 R2 w2 (((w2.setCell ⟨P, 6, none⟩ (.int .i64 0)).setCell ⟨P, 7, none⟩ (.int .i64 (u1 : Int))).setCell ⟨P, 8, none⟩ (.int .i64 (u2 : Int)))) := fun R2 w2 s9 hm hl => by rw [← hu1, ← hu2]; exact us_mid h (by rw [hu1]; obtain ⟨_, _, _, _, hh⟩ := h; exact hh.ok.u1) (by rw [hu2]; obtain ⟨_, _, _, _, hh⟩ := h; exact hh.ok.u2) hm (hW1 ▸ hl)
  rw [← hW1] at hm1 hl1
  have HM1 : Hid (WrM R W1 P mb s) := hm1
  have HL0 : Hid (Lw P R R w W1) := hl1
  obtain ⟨d6, d7, d8⟩ : w.cell? ⟨P, 6, none⟩ = some (.int .i64 0) ∧ w.cell? ⟨P, 7, none⟩ = some (.int .i64 (u1 : Int)) ∧ w.cell? ⟨P, 8, none⟩ = some (.int .i64 (u2 : Int)) := by
    obtain ⟨_, _, _, _, hh⟩ := h
    rw [hu1, hu2]
    exact ⟨z_ (i := 6) hh.blk rfl, z_ (i := 7) hh.blk rfl, z_ (i := 8) hh.blk rfl⟩
  obtain ⟨c0, c4, c5, c6⟩ := HW.out W1 HL0.out.bel
  rw [hW1] at c0 c4 c5 c6
  rw [← hG]
  have HLw : Hid (Lw P R R w W1) := hl1
  have HL1 : Hid (Lw P R R W1 W1) := Lw.refl _ _ _
  clear hx hw hbo hG hu h hm1 hl1 hyo hs' HL0 hu1 hu2
  rcases hcase with ⟨rfl, hop, u, e1⟩ | ⟨rfl, hop, u, s1, v, e1, e2⟩ | ⟨rfl, hop, on, s1, u, s3, v, s4, x, e1, e2, e3, e4⟩ | ⟨h1, h2, h3, p, s1, q, s3, z, s4, u, s5, v, e1, e2, e3, e4, e5⟩
  · have t1 : (yo.toList == [33]) = true := by rw [hyl, hop]; rfl
    clear hyl hop
    go_enter Tryz.func242, Tryz.ntmps242
    have HC2 : Hid (Calls Tryz.prog 215 #[ptr P, vl, .int .i64 (e : Int)] W1 (LuP P R mb W1 s2)) := hU R W1 P mb s s2 l vl e u HM1.out (HXl.out W1 ((HLw.out.trans HL1.out).bel)) e1
    go_wp2_with (go_at_call 215; fail)
    rw [← hW1]
    clear hW1 c0 c4 c5 c6 d6 d7 d8
    refine HC2.out.mono ?_
    rintro e w2 ⟨rfl, R2, hm2, hl2⟩
    have HM2 : Hid (WrM R2 w2 P mb _) := hm2
    have HL2 : Hid (Lw P R R2 W1 w2) := HL1.out.trans hl2
    clear hm2 hl2 HC2
    obtain ⟨⟨⟨y0, y1, y2⟩, ⟨x6, x7, x8, p6, p7, p8⟩, f6, f7, f8⟩, HE⟩ := HEnd.out R2 w2 HM2.out HL2.out
    obtain ⟨c0, c4, c5, c6⟩ := HW.out w2 (HLw.out.trans HL2.out).bel
    clear HEnd
    go_wp2
    go_end0
    exact HE.out
  · have t1 : (yo.toList == [124, 124]) = true := by rw [hyl, hop]; rfl
    clear hyl hop
    go_enter Tryz.func242, Tryz.ntmps242
    have HC2 : Hid (Calls Tryz.prog 242 #[ptr P, vl, .int .i64 (e : Int)] W1 (LuP P R mb W1 s1)) := hW R W1 P mb s s1 l vl e u HM1.out (HXl.out W1 ((HLw.out.trans HL1.out).bel)) e1
    go_wp2_with (go_at_call 242; fail)
    rw [← hW1]
    clear hW1 c0 c4 c5 c6 d6 d7 d8
    refine HC2.out.mono ?_
    rintro e w2 ⟨rfl, R2, hm2, hl2⟩
    have HM2 : Hid (WrM R2 w2 P mb _) := hm2
    have HL2 : Hid (Lw P R R2 W1 w2) := HL1.out.trans hl2
    clear hm2 hl2 HC2
    have HC3 : Hid (Calls Tryz.prog 242 #[ptr P, vr, .int .i64 (e : Int)] w2 (LuP P R2 mb w2 s2)) := hW R2 w2 P mb s1 s2 r vr e v HM2.out (HXr.out w2 ((HLw.out.trans HL2.out).bel)) e2
    obtain ⟨c0, c4, c5, c6⟩ := HW.out w2 (HLw.out.trans HL2.out).bel
    go_wp2_with (go_at_call 242; fail)
    clear c0 c4 c5 c6
    refine HC3.out.mono ?_
    rintro e w3 ⟨rfl, R3, hm3, hl3⟩
    have HM3 : Hid (WrM R3 w3 P mb _) := hm3
    have HL3 : Hid (Lw P R R3 W1 w3) := HL2.out.trans hl3
    clear hm3 hl3 HC3
    obtain ⟨⟨⟨y0, y1, y2⟩, ⟨x6, x7, x8, p6, p7, p8⟩, f6, f7, f8⟩, HE⟩ := HEnd.out R3 w3 HM3.out HL3.out
    obtain ⟨c0, c4, c5, c6⟩ := HW.out w3 (HLw.out.trans HL3.out).bel
    clear HEnd
    go_wp2
    go_end0
    exact HE.out
  · have t1 : (yo.toList == [124, 124]) = false := by rw [hyl, hop]; rfl
    have t2 : (yo.toList == [38, 38]) = true := by rw [hyl, hop]; rfl
    clear hyl hop
    go_enter Tryz.func242, Tryz.ntmps242
    have HC2 : Hid (Calls Tryz.prog 214 #[ptr P] W1 (LnP P R mb W1 (on : Int) s1)) := label_any HM1.out e1
    go_wp2_with (go_at_call 214; fail)
    rw [← hW1]
    clear hW1 c0 c4 c5 c6 d6 d7 d8
    refine HC2.out.mono ?_
    rintro e w2 ⟨rfl, R2, hm2, hl2⟩
    have HM2 : Hid (WrM R2 w2 P mb _) := hm2
    have HL2 : Hid (Lw P R R2 W1 w2) := HL1.out.trans hl2
    clear hm2 hl2 HC2
    have HC3 : Hid (Calls Tryz.prog 215 #[ptr P, vl, .int .i64 (on : Int)] w2 (LuP P R2 mb w2 s3)) := hU R2 w2 P mb s1 s3 l vl on u HM2.out (HXl.out w2 ((HLw.out.trans HL2.out).bel)) e2
    obtain ⟨c0, c4, c5, c6⟩ := HW.out w2 (HLw.out.trans HL2.out).bel
    go_wp2_with (go_at_call 215; fail)
    clear c0 c4 c5 c6
    refine HC3.out.mono ?_
    rintro e w3 ⟨rfl, R3, hm3, hl3⟩
    have HM3 : Hid (WrM R3 w3 P mb _) := hm3
    have HL3 : Hid (Lw P R R3 W1 w3) := HL2.out.trans hl3
    clear hm3 hl3 HC3
    have HC4 : Hid (Calls Tryz.prog 242 #[ptr P, vr, .int .i64 (e : Int)] w3 (LuP P R3 mb w3 s4)) := hW R3 w3 P mb s3 s4 r vr e v HM3.out (HXr.out w3 ((HLw.out.trans HL3.out).bel)) e3
    obtain ⟨c0, c4, c5, c6⟩ := HW.out w3 (HLw.out.trans HL3.out).bel
    go_wp2_with (go_at_call 242; fail)
    clear c0 c4 c5 c6
    refine HC4.out.mono ?_
    rintro e w4 ⟨rfl, R4, hm4, hl4⟩
    have HM4 : Hid (WrM R4 w4 P mb _) := hm4
    have HL4 : Hid (Lw P R R4 W1 w4) := HL3.out.trans hl4
    clear hm4 hl4 HC4
    have HC5 : Hid (Calls Tryz.prog 216 #[ptr P, .int .i64 (on : Int)] w4 (LuP P R4 mb w4 s2)) := put_any HM4.out e4
    obtain ⟨c0, c4, c5, c6⟩ := HW.out w4 (HLw.out.trans HL4.out).bel
    go_wp2_with (go_at_call 216; fail)
    clear c0 c4 c5 c6
    refine HC5.out.mono ?_
    rintro e w5 ⟨rfl, R5, hm5, hl5⟩
    have HM5 : Hid (WrM R5 w5 P mb _) := hm5
    have HL5 : Hid (Lw P R R5 W1 w5) := HL4.out.trans hl5
    clear hm5 hl5 HC5
    obtain ⟨⟨⟨y0, y1, y2⟩, ⟨x6, x7, x8, p6, p7, p8⟩, f6, f7, f8⟩, HE⟩ := HEnd.out R5 w5 HM5.out HL5.out
    obtain ⟨c0, c4, c5, c6⟩ := HW.out w5 (HLw.out.trans HL5.out).bel
    clear HEnd
    go_wp2
    go_end0
    exact HE.out
  · by_cases h4 : c = 4
    · have t1 : (yo.toList == [33]) = false := by rw [hyl]; simp; exact fun e => h1 ⟨h4, e⟩
      clear hyl h1 h2 h3
      subst h4
      go_enter Tryz.func242, Tryz.ntmps242
      have HC2 : Hid (Calls Tryz.prog 163 #[ptr P, ptr b] W1 (LnP P R mb W1 (p : Int) s1)) := hV R W1 P mb s s1 _ (ptr b) p HM1.out (HX.out W1 (HLw.out.trans HL1.out).bel) e1
      go_wp2_with (go_at_call 163; fail)
      rw [← hW1]
      clear hW1 c0 c4 c5 c6 d6 d7 d8
      refine HC2.out.mono ?_
      rintro e9 w2 ⟨rfl, R2, hm2, hl2⟩
      obtain ⟨⟨⟨y0, y1, y2⟩, ⟨x6, x7, x8, p6, p7, p8⟩, f6, f7, f8⟩, hm3, hl3⟩ := HMid.out R2 w2 s1 hm2 hl2
      obtain ⟨W3, hW3⟩ : ∃ W3, W3 = ((w2.setCell ⟨P, 6, none⟩ (.int .i64 0)).setCell ⟨P, 7, none⟩ (.int .i64 (u1 : Int))).setCell ⟨P, 8, none⟩ (.int .i64 (u2 : Int)) := ⟨_, rfl⟩
      rw [← hW3] at hm3 hl3
      have HL3 : Hid (Lw P R R2 W1 W3) := Lw.trans hl2 hl3
      have HC3 : Hid (Calls Tryz.prog 213 #[ptr P, .int .i64 1] W3 (LnP P R2 mb W3 (q : Int) s3)) := take1_any hm3 e2
      clear hm2 hl2 hm3 hl3 HC2 HMid
      go_wp2_with (go_at_call 213; fail)
      rw [← hW3]
      clear hW3 y0 y1 y2 p6 p7 p8 f6 f7 f8
      clear x6 x7 x8
      refine HC3.out.mono ?_
      rintro e9 w4 ⟨rfl, R4, hm4, hl4⟩
      have HL4 : Hid (Lw P R R4 W1 w4) := HL3.out.trans hl4
      have HC4 : Hid (Calls Tryz.prog 71 #[ptr P] w4 (LnP P R4 mb w4 (z : Int) s4)) := zero_any hm4 e3
      clear hm4 hl4 HC3
      go_wp2_with (go_at_call 71; fail)
      refine HC4.out.mono ?_
      rintro e9 w5 ⟨rfl, R5, hm5, hl5⟩
      have HL5 : Hid (Lw P R R5 W1 w5) := HL4.out.trans hl5
      have HC5 : Hid (Calls Tryz.prog 70 #[ptr P, .agg #[.int .i64 3, .int .i64 (q : Int), .int .i64 (p : Int), .int .i64 (z : Int), .int .i64 0, .int .i64 0, .string ⟨#[61, 61]⟩, .int .i64 0, .string ⟨#[]⟩, .slice none 0 0]] w5 (LuP P R5 mb w5 s5)) := add_y 3 (q : Int) (p : Int) (z : Int) 0 0 ⟨#[61, 61]⟩ 0 ⟨#[]⟩ [] none 0 0 hm5 (ArAt.none _ _) e4
      clear hm5 hl5 HC4
      go_wp2_with (go_at_call 70; fail)
      refine HC5.out.mono ?_
      rintro e9 w6 ⟨rfl, R6, hm6, hl6⟩
      have HL6 : Hid (Lw P R R6 W1 w6) := HL5.out.trans hl6
      have HC6 : Hid (Calls Tryz.prog 70 #[ptr P, .agg #[.int .i64 5, .int .i64 0, .int .i64 (q : Int), .int .i64 0, .int .i64 0, .int .i64 0, .string ⟨#[]⟩, .int .i64 (e : Int), .string ⟨#[]⟩, .slice none 0 0]] w6 (LuP P R6 mb w6 s2)) := add_y 5 0 (q : Int) 0 0 0 ⟨#[]⟩ (e : Int) ⟨#[]⟩ [] none 0 0 hm6 (ArAt.none _ _) e5
      clear hm6 hl6 HC5
      go_wp2_with (go_at_call 70; fail)
      refine HC6.out.mono ?_
      rintro e9 w7 ⟨rfl, R7, hm7, hl7⟩
      obtain ⟨⟨⟨y0, y1, y2⟩, ⟨x6, x7, x8, p6, p7, p8⟩, f6, f7, f8⟩, HE⟩ := HEnd.out R7 w7 hm7 (HL6.out.trans hl7)
      clear HEnd hm7 hl7 HC6
      go_wp2
      go_end0
      exact HE.out
    · have q4 : ((c : Int) == 4) = false := by simpa using h4
      by_cases h5 : c = 3
      · have t1 : (yo.toList == [124, 124]) = false := by rw [hyl]; simp; exact fun e => h2 ⟨h5, e⟩
        have t2 : (yo.toList == [38, 38]) = false := by rw [hyl]; simp; exact fun e => h3 ⟨h5, e⟩
        clear hyl h1 h2 h3 h4 q4
        subst h5
        go_enter Tryz.func242, Tryz.ntmps242
        have HC2 : Hid (Calls Tryz.prog 163 #[ptr P, ptr b] W1 (LnP P R mb W1 (p : Int) s1)) := hV R W1 P mb s s1 _ (ptr b) p HM1.out (HX.out W1 (HLw.out.trans HL1.out).bel) e1
        go_wp2_with (go_at_call 163; fail)
        rw [← hW1]
        clear hW1 c0 c4 c5 c6 d6 d7 d8
        refine HC2.out.mono ?_
        rintro e9 w2 ⟨rfl, R2, hm2, hl2⟩
        obtain ⟨⟨⟨y0, y1, y2⟩, ⟨x6, x7, x8, p6, p7, p8⟩, f6, f7, f8⟩, hm3, hl3⟩ := HMid.out R2 w2 s1 hm2 hl2
        obtain ⟨W3, hW3⟩ : ∃ W3, W3 = ((w2.setCell ⟨P, 6, none⟩ (.int .i64 0)).setCell ⟨P, 7, none⟩ (.int .i64 (u1 : Int))).setCell ⟨P, 8, none⟩ (.int .i64 (u2 : Int)) := ⟨_, rfl⟩
        rw [← hW3] at hm3 hl3
        have HL3 : Hid (Lw P R R2 W1 W3) := Lw.trans hl2 hl3
        have HC3 : Hid (Calls Tryz.prog 213 #[ptr P, .int .i64 1] W3 (LnP P R2 mb W3 (q : Int) s3)) := take1_any hm3 e2
        clear hm2 hl2 hm3 hl3 HC2 HMid
        go_wp2_with (go_at_call 213; fail)
        rw [← hW3]
        clear hW3 y0 y1 y2 p6 p7 p8 f6 f7 f8
        clear x6 x7 x8
        refine HC3.out.mono ?_
        rintro e9 w4 ⟨rfl, R4, hm4, hl4⟩
        have HL4 : Hid (Lw P R R4 W1 w4) := HL3.out.trans hl4
        have HC4 : Hid (Calls Tryz.prog 71 #[ptr P] w4 (LnP P R4 mb w4 (z : Int) s4)) := zero_any hm4 e3
        clear hm4 hl4 HC3
        go_wp2_with (go_at_call 71; fail)
        refine HC4.out.mono ?_
        rintro e9 w5 ⟨rfl, R5, hm5, hl5⟩
        have HL5 : Hid (Lw P R R5 W1 w5) := HL4.out.trans hl5
        have HC5 : Hid (Calls Tryz.prog 70 #[ptr P, .agg #[.int .i64 3, .int .i64 (q : Int), .int .i64 (p : Int), .int .i64 (z : Int), .int .i64 0, .int .i64 0, .string ⟨#[61, 61]⟩, .int .i64 0, .string ⟨#[]⟩, .slice none 0 0]] w5 (LuP P R5 mb w5 s5)) := add_y 3 (q : Int) (p : Int) (z : Int) 0 0 ⟨#[61, 61]⟩ 0 ⟨#[]⟩ [] none 0 0 hm5 (ArAt.none _ _) e4
        clear hm5 hl5 HC4
        go_wp2_with (go_at_call 70; fail)
        refine HC5.out.mono ?_
        rintro e9 w6 ⟨rfl, R6, hm6, hl6⟩
        have HL6 : Hid (Lw P R R6 W1 w6) := HL5.out.trans hl6
        have HC6 : Hid (Calls Tryz.prog 70 #[ptr P, .agg #[.int .i64 5, .int .i64 0, .int .i64 (q : Int), .int .i64 0, .int .i64 0, .int .i64 0, .string ⟨#[]⟩, .int .i64 (e : Int), .string ⟨#[]⟩, .slice none 0 0]] w6 (LuP P R6 mb w6 s2)) := add_y 5 0 (q : Int) 0 0 0 ⟨#[]⟩ (e : Int) ⟨#[]⟩ [] none 0 0 hm6 (ArAt.none _ _) e5
        clear hm6 hl6 HC5
        go_wp2_with (go_at_call 70; fail)
        refine HC6.out.mono ?_
        rintro e9 w7 ⟨rfl, R7, hm7, hl7⟩
        obtain ⟨⟨⟨y0, y1, y2⟩, ⟨x6, x7, x8, p6, p7, p8⟩, f6, f7, f8⟩, HE⟩ := HEnd.out R7 w7 hm7 (HL6.out.trans hl7)
        clear HEnd hm7 hl7 HC6
        go_wp2
        go_end0
        exact HE.out
      · have q3 : ((c : Int) == 3) = false := by simpa using h5
        clear hyl h1 h2 h3 h4 h5
        go_enter Tryz.func242, Tryz.ntmps242
        have HC2 : Hid (Calls Tryz.prog 163 #[ptr P, ptr b] W1 (LnP P R mb W1 (p : Int) s1)) := hV R W1 P mb s s1 _ (ptr b) p HM1.out (HX.out W1 (HLw.out.trans HL1.out).bel) e1
        go_wp2_with (go_at_call 163; fail)
        rw [← hW1]
        clear hW1 c0 c4 c5 c6 d6 d7 d8
        refine HC2.out.mono ?_
        rintro e9 w2 ⟨rfl, R2, hm2, hl2⟩
        obtain ⟨⟨⟨y0, y1, y2⟩, ⟨x6, x7, x8, p6, p7, p8⟩, f6, f7, f8⟩, hm3, hl3⟩ := HMid.out R2 w2 s1 hm2 hl2
        obtain ⟨W3, hW3⟩ : ∃ W3, W3 = ((w2.setCell ⟨P, 6, none⟩ (.int .i64 0)).setCell ⟨P, 7, none⟩ (.int .i64 (u1 : Int))).setCell ⟨P, 8, none⟩ (.int .i64 (u2 : Int)) := ⟨_, rfl⟩
        rw [← hW3] at hm3 hl3
        have HL3 : Hid (Lw P R R2 W1 W3) := Lw.trans hl2 hl3
        have HC3 : Hid (Calls Tryz.prog 213 #[ptr P, .int .i64 1] W3 (LnP P R2 mb W3 (q : Int) s3)) := take1_any hm3 e2
        clear hm2 hl2 hm3 hl3 HC2 HMid
        go_wp2_with (go_at_call 213; fail)
        rw [← hW3]
        clear hW3 y0 y1 y2 p6 p7 p8 f6 f7 f8
        clear x6 x7 x8
        refine HC3.out.mono ?_
        rintro e9 w4 ⟨rfl, R4, hm4, hl4⟩
        have HL4 : Hid (Lw P R R4 W1 w4) := HL3.out.trans hl4
        have HC4 : Hid (Calls Tryz.prog 71 #[ptr P] w4 (LnP P R4 mb w4 (z : Int) s4)) := zero_any hm4 e3
        clear hm4 hl4 HC3
        go_wp2_with (go_at_call 71; fail)
        refine HC4.out.mono ?_
        rintro e9 w5 ⟨rfl, R5, hm5, hl5⟩
        have HL5 : Hid (Lw P R R5 W1 w5) := HL4.out.trans hl5
        have HC5 : Hid (Calls Tryz.prog 70 #[ptr P, .agg #[.int .i64 3, .int .i64 (q : Int), .int .i64 (p : Int), .int .i64 (z : Int), .int .i64 0, .int .i64 0, .string ⟨#[61, 61]⟩, .int .i64 0, .string ⟨#[]⟩, .slice none 0 0]] w5 (LuP P R5 mb w5 s5)) := add_y 3 (q : Int) (p : Int) (z : Int) 0 0 ⟨#[61, 61]⟩ 0 ⟨#[]⟩ [] none 0 0 hm5 (ArAt.none _ _) e4
        clear hm5 hl5 HC4
        go_wp2_with (go_at_call 70; fail)
        refine HC5.out.mono ?_
        rintro e9 w6 ⟨rfl, R6, hm6, hl6⟩
        have HL6 : Hid (Lw P R R6 W1 w6) := HL5.out.trans hl6
        have HC6 : Hid (Calls Tryz.prog 70 #[ptr P, .agg #[.int .i64 5, .int .i64 0, .int .i64 (q : Int), .int .i64 0, .int .i64 0, .int .i64 0, .string ⟨#[]⟩, .int .i64 (e : Int), .string ⟨#[]⟩, .slice none 0 0]] w6 (LuP P R6 mb w6 s2)) := add_y 5 0 (q : Int) 0 0 0 ⟨#[]⟩ (e : Int) ⟨#[]⟩ [] none 0 0 hm6 (ArAt.none _ _) e5
        clear hm6 hl6 HC5
        go_wp2_with (go_at_call 70; fail)
        refine HC6.out.mono ?_
        rintro e9 w7 ⟨rfl, R7, hm7, hl7⟩
        obtain ⟨⟨⟨y0, y1, y2⟩, ⟨x6, x7, x8, p6, p7, p8⟩, f6, f7, f8⟩, HE⟩ := HEnd.out R7 w7 hm7 (HL6.out.trans hl7)
        clear HEnd hm7 hl7 HC6
        go_wp2
        go_end0
        exact HE.out
end Go.Proofs.YtnfhpdbbfejioaaGreatDoor.Mid
