/- HF HG -/
import Derived.Test.YtnfhpdbbfejioaaGreatDoorQ22
import Derived.Test.YtnfhpdbbfejioaaGreatDoorQ23
namespace Go.Proofs.YtnfhpdbbfejioaaGreatDoor
set_option linter.unusedVariables false
set_option linter.unusedSimpArgs false
set_option maxRecDepth 100000
set_option maxHeartbeats 4000000
open Go Go.RowKit
theorem st_inj {c a c' a' : Int} {nm nm' : By} {ix v th el ix' v' th' el' : Tr} (e : st c a nm ix v th el = st c' a' nm' ix' v' th' el') : c = c' ∧ a = a' ∧ nm = nm' ∧ ix = ix' ∧ v = v' ∧ th = th' ∧ el = el' := by
 simpa [st] using e
theorem cs_on {P : Nat} {x : Tr} {w W : World} {e : Ending} {w' : World} (hb : Below w.heap.size w W) (h : CsP P x W e w') : (∃ k cap, e = .returned (.func (.func k) #[] cap)) ∧ CsP P x w e w' := by
 obtain ⟨k, cap, e1, h1, h2⟩ := h
 exact ⟨⟨k, cap, e1⟩, k, cap, e1, h1, hb.trans (h2.mono hb.size)⟩
theorem cm_put {a : Int} {nm : By} {ix v th el : Tr} (hi : CmE ix) (hni : IsNd ix) (hv : CmE v) (hnv : IsNd v) : CmS (st 3 a nm ix v th el) := by
 rintro c a' nm' ix' v' th' el' e S w P b o vi vv vt ve h
 obtain ⟨rfl, rfl, rfl, rfl, rfl, rfl, rfl⟩ := st_inj e
 have HC : Hid (∀ W, Below w.heap.size w W → Calls Tryz.prog 135 #[ptr P, .pointer (some ⟨b, o, none⟩)] W fun e w' => (∃ k cap, e = .returned (.func (.func k) #[] cap)) ∧ CsP P (st 3 a nm ix v th el) w e w') := fun W hb => (put_walk hi hni hv hnv S W P b o vi vv vt ve (h.below hb)).mono fun e w' h => cs_on hb h
 obtain ⟨cs, h1, h2, -⟩ := h.cells
 have c0 : w.cell? ⟨b, o, none⟩ = some (.int .i64 3) := z_ h1 h2
 have hlt : b < w.heap.size := (Array.getElem?_eq_some_iff.1 h1).1
 generalize CsP P (st 3 a nm ix v th el) w = G at HC ⊢
 clear h h1 h2 e
 go_enter Tryz.func86, Tryz.ntmps86
 go_wp2_with (go_at_call 135; fail)
 refine (HC.out _ (jo _ _ _)).mono ?_
 rintro e w1 ⟨⟨k1, cp1, rfl⟩, hg⟩
 have HH : Hid (G (.returned (.func (.func k1) #[] cp1)) w1) := hg
 clear hg
 go_wp2
 exact HH.out
theorem cm_if {a : Int} {nm : By} {ix v th el : Tr} (hv : CmE v) (hnv : IsNd v) (ht : CmB th) (he : CmB el) : CmS (st 4 a nm ix v th el) := by
 rintro c a' nm' ix' v' th' el' e S w P b o vi vv vt ve h
 obtain ⟨rfl, rfl, rfl, rfl, rfl, rfl, rfl⟩ := st_inj e
 have HC : Hid (∀ W, Below w.heap.size w W → Calls Tryz.prog 136 #[ptr P, .pointer (some ⟨b, o, none⟩)] W fun e w' => (∃ k cap, e = .returned (.func (.func k) #[] cap)) ∧ CsP P (st 4 a nm ix v th el) w e w') := fun W hb => (choice_walk hv hnv ht he S W P b o vi vv vt ve (h.below hb)).mono fun e w' h => cs_on hb h
 obtain ⟨cs, h1, h2, -⟩ := h.cells
 have c0 : w.cell? ⟨b, o, none⟩ = some (.int .i64 4) := z_ h1 h2
 have hlt : b < w.heap.size := (Array.getElem?_eq_some_iff.1 h1).1
 generalize CsP P (st 4 a nm ix v th el) w = G at HC ⊢
 clear h h1 h2 e
 go_enter Tryz.func86, Tryz.ntmps86
 go_wp2_with (go_at_call 136; fail)
 refine (HC.out _ (jo _ _ _)).mono ?_
 rintro e w1 ⟨⟨k1, cp1, rfl⟩, hg⟩
 have HH : Hid (G (.returned (.func (.func k1) #[] cp1)) w1) := hg
 clear hg
 go_wp2
 exact HH.out
theorem cm_while {a : Int} {nm : By} {ix v th el : Tr} (hv : CmE v) (hnv : IsNd v) (ht : CmB th) : CmS (st 5 a nm ix v th el) := by
 rintro c a' nm' ix' v' th' el' e S w P b o vi vv vt ve h
 obtain ⟨rfl, rfl, rfl, rfl, rfl, rfl, rfl⟩ := st_inj e
 have HC : Hid (∀ W, Below w.heap.size w W → Calls Tryz.prog 137 #[ptr P, .pointer (some ⟨b, o, none⟩)] W fun e w' => (∃ k cap, e = .returned (.func (.func k) #[] cap)) ∧ CsP P (st 5 a nm ix v th el) w e w') := fun W hb => (loop_walk hv hnv ht S W P b o vi vv vt ve (h.below hb)).mono fun e w' h => cs_on hb h
 obtain ⟨cs, h1, h2, -⟩ := h.cells
 have c0 : w.cell? ⟨b, o, none⟩ = some (.int .i64 5) := z_ h1 h2
 have hlt : b < w.heap.size := (Array.getElem?_eq_some_iff.1 h1).1
 generalize CsP P (st 5 a nm ix v th el) w = G at HC ⊢
 clear h h1 h2 e
 go_enter Tryz.func86, Tryz.ntmps86
 go_wp2_with (go_at_call 137; fail)
 refine (HC.out _ (jo _ _ _)).mono ?_
 rintro e w1 ⟨⟨k1, cp1, rfl⟩, hg⟩
 have HH : Hid (G (.returned (.func (.func k1) #[] cp1)) w1) := hg
 clear hg
 go_wp2
 exact HH.out
theorem qJ {W0 w1 : World} {b : Nat} {o : Obj} (hb1 : Below (W0.alloc (.cells #[.nilFunc] 245)).heap.size (W0.alloc (.cells #[.nilFunc] 245)) w1) (h : W0.heap[b]? = some o) (u : Value) : (w1.setCell ⟨W0.heap.size, 0, none⟩ u).heap[b]? = some o := by
 have hl := (Array.getElem?_eq_some_iff.1 h).1
 rw [heap_setCell_other _ _ _ _ (by show b ≠ W0.heap.size; omega)]
 exact zx hb1 (zc h _)
theorem cm_ret {a : Int} {nm : By} {ix v th el : Tr} (hv : CmE v) (hnv : IsNd v) : CmS (st 6 a nm ix v th el) := by
 rintro c a' nm' ix' v' th' el' e S w P b o vi vv vt ve h
 obtain ⟨rfl, rfl, rfl, rfl, rfl, rfl, rfl⟩ := st_inj e
 obtain ⟨qv, hqv⟩ := q_ hnv h.v
 injection hqv with hqv
 subst hqv
 have HC : Hid (∀ W, Below w.heap.size w W → Calls Tryz.prog 138 #[ptr P, ptr qv] W (CmP P v W)) := fun W hb => hv S W P _ (zD hb h.v)
 obtain ⟨cs, h1, h2, h3, -, h4, -⟩ := h.cells
 have c0 : w.cell? ⟨b, o, none⟩ = some (.int .i64 6) := z_ h1 h2
 have c4 : w.cell? ⟨b, o + 4, none⟩ = some (ptr qv) := z_ h1 h4
 have hlt : b < w.heap.size := (Array.getElem?_eq_some_iff.1 h1).1
 have hmf := mkf
 have HSc : Hid (w.heap[b]? = some (.cells cs 147) ∧ cs[o + 2]? = some (str nm)) := ⟨h1, h3⟩
 clear h h1 h2 h3 h4 hv hnv e
 go_enter Tryz.func86, Tryz.ntmps86
 go_upto_region 8 with fail
 obtain ⟨W0, hW0⟩ : ∃ W0, W0 = (w.alloc (.cells #[ptr P] 57)).alloc (.cells #[.pointer (some ⟨b, o, none⟩)] 186) := ⟨_, rfl⟩
 have hB0 : Below w.heap.size w W0 := by rw [hW0]; exact jo _ _ _
 have HB0 : Hid (Below w.heap.size w W0) := hB0
 have hS0 : W0.heap.size = w.heap.size + 2 := by rw [hW0]; simp
 have HS0 : Hid (W0.heap.size = w.heap.size + 2) := hS0
 have HG : Hid (W0.heap[w.heap.size]? = some (.cells #[ptr P] 57) ∧ W0.heap[w.heap.size + 1]? = some (.cells #[.pointer (some ⟨b, o, none⟩)] 186) ∧ W0.heap[b]? = some (.cells cs 147)) := by
  show _ ∧ _ ∧ _
  rw [hW0]; exact ⟨al1 _ _ _, al2 _ _ _, zc (zc HSc.out.1 _) _⟩
 have p1 : W0.cell? ⟨w.heap.size, 0, none⟩ = some (ptr P) := z_ (i := 0) HG.out.1 rfl
 have p2 : W0.cell? ⟨w.heap.size + 1, 0, none⟩ = some (.pointer (some ⟨b, o, none⟩)) := z_ (i := 0) HG.out.2.1 rfl
 have p3 : W0.cell? ⟨b, o + 4, none⟩ = some (ptr qv) := by rw [hB0.cell (p := ⟨b, o + 4, none⟩) hlt]; exact c4
 have HC0 : Hid (w.cell? ⟨b, o, none⟩ = some (.int .i64 6)) := c0
 have hz : w.heap.size + 1 < W0.heap.size := by omega
 have hz0 : w.heap.size < W0.heap.size := by omega
 have hq0 : b < W0.heap.size := by omega
 have m1 : w.heap.size ≠ W0.heap.size := by omega
 have m2 : w.heap.size + 1 ≠ W0.heap.size := by omega
 have m3 : b ≠ W0.heap.size := by omega
 rw [← hW0]
 clear hW0 c0 c4 hB0 hS0
 go_cut [5] (fun v5 wx => ∃ b5 x1, v5 = ptr b5 ∧ Hid (wx.heap[b5]? = some (.cells #[x1] 245) ∧ ClE wx P v x1 ∧ Below w.heap.size w wx ∧ wx.heap[w.heap.size]? = some (.cells #[ptr P] 57) ∧ wx.heap[w.heap.size + 1]? = some (.cells #[.pointer (some ⟨b, o, none⟩)] 186)))
 case first =>
  go_region_held3 (fun w' => w'.cell? ⟨w.heap.size, 0, none⟩ = some (ptr P) ∧ w'.cell? ⟨w.heap.size + 1, 0, none⟩ = some (.pointer (some ⟨b, o, none⟩)) ∧ w'.cell? ⟨b, o + 4, none⟩ = some (ptr qv))
  (first | (go_keep; done) | ((try dsimp only); refine ⟨?_, ?_, ?_⟩ <;> first | (go_keep; done) | (go_simp; done) | (simp [*]; done) | (rw [World.cell?_setCell_other (by intro e; injection e; omega)]; assumption)))
  (first | (go_at_call 138; refine (HC.out _ (by first | exact HB0.out.drew | exact (HB0.out.alloc (by have := HS0.out; omega) _).drew | exact (HB0.out.drew.alloc (by have := HS0.out; simp; omega) _))).mono ?_; rintro e w1 ⟨k1, cp1, rfl, hcl, hb1⟩; have hcc := fun b o h => hb1.cell (p := ⟨b, o, none⟩) h; have hff := fun b o h => hb1.frozen (p := ⟨b, o, none⟩) h; have t1 : w1.cell? ⟨w.heap.size, 0, none⟩ = some (ptr P) := (hcc _ _ (by first | (simp; done) | (simp; omega))).trans (by go_simp); have t2 : w1.cell? ⟨w.heap.size + 1, 0, none⟩ = some (.pointer (some ⟨b, o, none⟩)) := (hcc _ _ (by first | (simp; done) | (simp; omega))).trans (by go_simp); have t3 : w1.cell? ⟨b, o + 4, none⟩ = some (ptr qv) := (hcc _ _ (by first | (simp; done) | (simp; omega))).trans (by go_simp); have t4 := hb1.size; simp at t4; have u1 : w.heap.size < w1.heap.size := (by omega); have u2 : w.heap.size + 1 < w1.heap.size := (by omega); have u3 : b < w1.heap.size := (by omega)))
  all_goals first
  |(obtain ⟨g1, g2, g3⟩ := late (HB0.out.trans ((zu hb1).mono HB0.out.size)) hcl; have g4 : Hid (_ ∧ _) := ⟨zc (zx (zu hb1) HG.out.1) (.cells #[.func (.func k1) #[] cp1] 245), zc (zx (zu hb1) HG.out.2.1) (.cells #[.func (.func k1) #[] cp1] 245)⟩; clear hcc hff; have G1 : Hid (_ ∧ _ ∧ _) := ⟨g1, g2, g3⟩; clear g1 g2 g3; go_wp2_with fail; go_meet; exact ⟨_, _, rfl, G1.out.1, G1.out.2.1, G1.out.2.2, g4.out.1, g4.out.2⟩)
  |(obtain ⟨g1, g2, g3⟩ := early HB0.out (zu hb1) hcl; have g4 : Hid (_ ∧ _) := ⟨qJ (zu hb1) HG.out.1 (.func (.func k1) #[] cp1), qJ (zu hb1) HG.out.2.1 (.func (.func k1) #[] cp1)⟩; clear hcc hff; have G1 : Hid (_ ∧ _ ∧ _) := ⟨g1, g2, g3⟩; clear g1 g2 g3; go_wp2_with fail; go_meet; exact ⟨_, _, rfl, G1.out.1, G1.out.2.1, G1.out.2.2, g4.out.1, g4.out.2⟩)
 case rest =>
  obtain ⟨b5, x1, rfl, HF⟩ := hcut
  obtain ⟨w9, hw9⟩ : ∃ w9, w9 = wc := ⟨_, rfl⟩
  rw [← hw9] at HF ⊢
  clear hw9
  have d1 : w9.cell? ⟨w.heap.size + 1, 0, none⟩ = some (.pointer (some ⟨b, o, none⟩)) := z_ (i := 0) HF.out.2.2.2.2 rfl
  have d2 : w9.cell? ⟨b, o, none⟩ = some (.int .i64 6) := by rw [HF.out.2.2.1.cell (p := ⟨b, o, none⟩) hlt]; exact HC0.out
  clear p1 p2 p3
  go_wp2
  go_ret
  obtain ⟨f1, f2, f3, f4, f5⟩ := HF.out
  refine ⟨_, _, rfl, ?_, f3⟩
  rw [ClB]
  exact ⟨_, [], rfl, by rw [ClB], .inr (.inr (.inr (.inl ⟨rfl, b5, x1, rfl, f1, f2⟩)))⟩
theorem cm_print {a : Int} {nm : By} {ix v th el : Tr} (hv : CmE v) (hnv : IsNd v) : CmS (st 7 a nm ix v th el) := by
 rintro c a' nm' ix' v' th' el' e S w P b o vi vv vt ve h
 obtain ⟨rfl, rfl, rfl, rfl, rfl, rfl, rfl⟩ := st_inj e
 obtain ⟨qv, hqv⟩ := q_ hnv h.v
 injection hqv with hqv
 subst hqv
 have HC : Hid (∀ W, Below w.heap.size w W → Calls Tryz.prog 138 #[ptr P, ptr qv] W (CmP P v W)) := fun W hb => hv S W P _ (zD hb h.v)
 obtain ⟨cs, h1, h2, h3, -, h4, -⟩ := h.cells
 have c0 : w.cell? ⟨b, o, none⟩ = some (.int .i64 7) := z_ h1 h2
 have c4 : w.cell? ⟨b, o + 4, none⟩ = some (ptr qv) := z_ h1 h4
 have hlt : b < w.heap.size := (Array.getElem?_eq_some_iff.1 h1).1
 have hmf := mkf
 have HSc : Hid (w.heap[b]? = some (.cells cs 147) ∧ cs[o + 2]? = some (str nm)) := ⟨h1, h3⟩
 clear h h1 h2 h3 h4 hv hnv e
 go_enter Tryz.func86, Tryz.ntmps86
 go_upto_region 8 with fail
 obtain ⟨W0, hW0⟩ : ∃ W0, W0 = (w.alloc (.cells #[ptr P] 57)).alloc (.cells #[.pointer (some ⟨b, o, none⟩)] 186) := ⟨_, rfl⟩
 have hB0 : Below w.heap.size w W0 := by rw [hW0]; exact jo _ _ _
 have HB0 : Hid (Below w.heap.size w W0) := hB0
 have hS0 : W0.heap.size = w.heap.size + 2 := by rw [hW0]; simp
 have HS0 : Hid (W0.heap.size = w.heap.size + 2) := hS0
 have HG : Hid (W0.heap[w.heap.size]? = some (.cells #[ptr P] 57) ∧ W0.heap[w.heap.size + 1]? = some (.cells #[.pointer (some ⟨b, o, none⟩)] 186) ∧ W0.heap[b]? = some (.cells cs 147)) := by
  show _ ∧ _ ∧ _
  rw [hW0]; exact ⟨al1 _ _ _, al2 _ _ _, zc (zc HSc.out.1 _) _⟩
 have p1 : W0.cell? ⟨w.heap.size, 0, none⟩ = some (ptr P) := z_ (i := 0) HG.out.1 rfl
 have p2 : W0.cell? ⟨w.heap.size + 1, 0, none⟩ = some (.pointer (some ⟨b, o, none⟩)) := z_ (i := 0) HG.out.2.1 rfl
 have p3 : W0.cell? ⟨b, o + 4, none⟩ = some (ptr qv) := by rw [hB0.cell (p := ⟨b, o + 4, none⟩) hlt]; exact c4
 have HC0 : Hid (w.cell? ⟨b, o, none⟩ = some (.int .i64 7)) := c0
 have hz : w.heap.size + 1 < W0.heap.size := by omega
 have hz0 : w.heap.size < W0.heap.size := by omega
 have hq0 : b < W0.heap.size := by omega
 have m1 : w.heap.size ≠ W0.heap.size := by omega
 have m2 : w.heap.size + 1 ≠ W0.heap.size := by omega
 have m3 : b ≠ W0.heap.size := by omega
 rw [← hW0]
 clear hW0 c0 c4 hB0 hS0
 go_cut [5] (fun v5 wx => ∃ b5 x1, v5 = ptr b5 ∧ Hid (wx.heap[b5]? = some (.cells #[x1] 245) ∧ ClE wx P v x1 ∧ Below w.heap.size w wx ∧ wx.heap[w.heap.size]? = some (.cells #[ptr P] 57) ∧ wx.heap[w.heap.size + 1]? = some (.cells #[.pointer (some ⟨b, o, none⟩)] 186)))
 case first =>
  go_region_held3 (fun w' => w'.cell? ⟨w.heap.size, 0, none⟩ = some (ptr P) ∧ w'.cell? ⟨w.heap.size + 1, 0, none⟩ = some (.pointer (some ⟨b, o, none⟩)) ∧ w'.cell? ⟨b, o + 4, none⟩ = some (ptr qv))
  (first | (go_keep; done) | ((try dsimp only); refine ⟨?_, ?_, ?_⟩ <;> first | (go_keep; done) | (go_simp; done) | (simp [*]; done) | (rw [World.cell?_setCell_other (by intro e; injection e; omega)]; assumption)))
  (first | (go_at_call 138; refine (HC.out _ (by first | exact HB0.out.drew | exact (HB0.out.alloc (by have := HS0.out; omega) _).drew | exact (HB0.out.drew.alloc (by have := HS0.out; simp; omega) _))).mono ?_; rintro e w1 ⟨k1, cp1, rfl, hcl, hb1⟩; have hcc := fun b o h => hb1.cell (p := ⟨b, o, none⟩) h; have hff := fun b o h => hb1.frozen (p := ⟨b, o, none⟩) h; have t1 : w1.cell? ⟨w.heap.size, 0, none⟩ = some (ptr P) := (hcc _ _ (by first | (simp; done) | (simp; omega))).trans (by go_simp); have t2 : w1.cell? ⟨w.heap.size + 1, 0, none⟩ = some (.pointer (some ⟨b, o, none⟩)) := (hcc _ _ (by first | (simp; done) | (simp; omega))).trans (by go_simp); have t3 : w1.cell? ⟨b, o + 4, none⟩ = some (ptr qv) := (hcc _ _ (by first | (simp; done) | (simp; omega))).trans (by go_simp); have t4 := hb1.size; simp at t4; have u1 : w.heap.size < w1.heap.size := (by omega); have u2 : w.heap.size + 1 < w1.heap.size := (by omega); have u3 : b < w1.heap.size := (by omega)))
  all_goals first
  |(obtain ⟨g1, g2, g3⟩ := late (HB0.out.trans ((zu hb1).mono HB0.out.size)) hcl; have g4 : Hid (_ ∧ _) := ⟨zc (zx (zu hb1) HG.out.1) (.cells #[.func (.func k1) #[] cp1] 245), zc (zx (zu hb1) HG.out.2.1) (.cells #[.func (.func k1) #[] cp1] 245)⟩; clear hcc hff; have G1 : Hid (_ ∧ _ ∧ _) := ⟨g1, g2, g3⟩; clear g1 g2 g3; go_wp2_with fail; go_meet; exact ⟨_, _, rfl, G1.out.1, G1.out.2.1, G1.out.2.2, g4.out.1, g4.out.2⟩)
  |(obtain ⟨g1, g2, g3⟩ := early HB0.out (zu hb1) hcl; have g4 : Hid (_ ∧ _) := ⟨qJ (zu hb1) HG.out.1 (.func (.func k1) #[] cp1), qJ (zu hb1) HG.out.2.1 (.func (.func k1) #[] cp1)⟩; clear hcc hff; have G1 : Hid (_ ∧ _ ∧ _) := ⟨g1, g2, g3⟩; clear g1 g2 g3; go_wp2_with fail; go_meet; exact ⟨_, _, rfl, G1.out.1, G1.out.2.1, G1.out.2.2, g4.out.1, g4.out.2⟩)
 case rest =>
  obtain ⟨b5, x1, rfl, HF⟩ := hcut
  obtain ⟨w9, hw9⟩ : ∃ w9, w9 = wc := ⟨_, rfl⟩
  rw [← hw9] at HF ⊢
  clear hw9
  have d1 : w9.cell? ⟨w.heap.size + 1, 0, none⟩ = some (.pointer (some ⟨b, o, none⟩)) := z_ (i := 0) HF.out.2.2.2.2 rfl
  have d2 : w9.cell? ⟨b, o, none⟩ = some (.int .i64 7) := by rw [HF.out.2.2.1.cell (p := ⟨b, o, none⟩) hlt]; exact HC0.out
  clear p1 p2 p3
  go_wp2
  go_ret
  obtain ⟨f1, f2, f3, f4, f5⟩ := HF.out
  refine ⟨_, _, rfl, ?_, f3⟩
  rw [ClB]
  exact ⟨_, [], rfl, by rw [ClB], .inr (.inr (.inr (.inr (.inl ⟨rfl, w.heap.size, b5, x1, rfl, f4, f1, f2⟩))))⟩
theorem cm_do {a : Int} {nm : By} {ix v th el : Tr} (hv : CmE v) (hnv : IsNd v) : CmS (st 8 a nm ix v th el) := by
 rintro c a' nm' ix' v' th' el' e S w P b o vi vv vt ve h
 obtain ⟨rfl, rfl, rfl, rfl, rfl, rfl, rfl⟩ := st_inj e
 obtain ⟨qv, hqv⟩ := q_ hnv h.v
 injection hqv with hqv
 subst hqv
 have HC : Hid (∀ W, Below w.heap.size w W → Calls Tryz.prog 138 #[ptr P, ptr qv] W (CmP P v W)) := fun W hb => hv S W P _ (zD hb h.v)
 obtain ⟨cs, h1, h2, h3, -, h4, -⟩ := h.cells
 have c0 : w.cell? ⟨b, o, none⟩ = some (.int .i64 8) := z_ h1 h2
 have c4 : w.cell? ⟨b, o + 4, none⟩ = some (ptr qv) := z_ h1 h4
 have hlt : b < w.heap.size := (Array.getElem?_eq_some_iff.1 h1).1
 have hmf := mkf
 have HSc : Hid (w.heap[b]? = some (.cells cs 147) ∧ cs[o + 2]? = some (str nm)) := ⟨h1, h3⟩
 clear h h1 h2 h3 h4 hv hnv e
 go_enter Tryz.func86, Tryz.ntmps86
 go_upto_region 8 with fail
 obtain ⟨W0, hW0⟩ : ∃ W0, W0 = (w.alloc (.cells #[ptr P] 57)).alloc (.cells #[.pointer (some ⟨b, o, none⟩)] 186) := ⟨_, rfl⟩
 have hB0 : Below w.heap.size w W0 := by rw [hW0]; exact jo _ _ _
 have HB0 : Hid (Below w.heap.size w W0) := hB0
 have hS0 : W0.heap.size = w.heap.size + 2 := by rw [hW0]; simp
 have HS0 : Hid (W0.heap.size = w.heap.size + 2) := hS0
 have HG : Hid (W0.heap[w.heap.size]? = some (.cells #[ptr P] 57) ∧ W0.heap[w.heap.size + 1]? = some (.cells #[.pointer (some ⟨b, o, none⟩)] 186) ∧ W0.heap[b]? = some (.cells cs 147)) := by
  show _ ∧ _ ∧ _
  rw [hW0]; exact ⟨al1 _ _ _, al2 _ _ _, zc (zc HSc.out.1 _) _⟩
 have p1 : W0.cell? ⟨w.heap.size, 0, none⟩ = some (ptr P) := z_ (i := 0) HG.out.1 rfl
 have p2 : W0.cell? ⟨w.heap.size + 1, 0, none⟩ = some (.pointer (some ⟨b, o, none⟩)) := z_ (i := 0) HG.out.2.1 rfl
 have p3 : W0.cell? ⟨b, o + 4, none⟩ = some (ptr qv) := by rw [hB0.cell (p := ⟨b, o + 4, none⟩) hlt]; exact c4
 have HC0 : Hid (w.cell? ⟨b, o, none⟩ = some (.int .i64 8)) := c0
 have hz : w.heap.size + 1 < W0.heap.size := by omega
 have hz0 : w.heap.size < W0.heap.size := by omega
 have hq0 : b < W0.heap.size := by omega
 have m1 : w.heap.size ≠ W0.heap.size := by omega
 have m2 : w.heap.size + 1 ≠ W0.heap.size := by omega
 have m3 : b ≠ W0.heap.size := by omega
 rw [← hW0]
 clear hW0 c0 c4 hB0 hS0
 go_cut [5] (fun v5 wx => ∃ b5 x1, v5 = ptr b5 ∧ Hid (wx.heap[b5]? = some (.cells #[x1] 245) ∧ ClE wx P v x1 ∧ Below w.heap.size w wx ∧ wx.heap[w.heap.size]? = some (.cells #[ptr P] 57) ∧ wx.heap[w.heap.size + 1]? = some (.cells #[.pointer (some ⟨b, o, none⟩)] 186)))
 case first =>
  go_region_held3 (fun w' => w'.cell? ⟨w.heap.size, 0, none⟩ = some (ptr P) ∧ w'.cell? ⟨w.heap.size + 1, 0, none⟩ = some (.pointer (some ⟨b, o, none⟩)) ∧ w'.cell? ⟨b, o + 4, none⟩ = some (ptr qv))
  (first | (go_keep; done) | ((try dsimp only); refine ⟨?_, ?_, ?_⟩ <;> first | (go_keep; done) | (go_simp; done) | (simp [*]; done) | (rw [World.cell?_setCell_other (by intro e; injection e; omega)]; assumption)))
  (first | (go_at_call 138; refine (HC.out _ (by first | exact HB0.out.drew | exact (HB0.out.alloc (by have := HS0.out; omega) _).drew | exact (HB0.out.drew.alloc (by have := HS0.out; simp; omega) _))).mono ?_; rintro e w1 ⟨k1, cp1, rfl, hcl, hb1⟩; have hcc := fun b o h => hb1.cell (p := ⟨b, o, none⟩) h; have hff := fun b o h => hb1.frozen (p := ⟨b, o, none⟩) h; have t1 : w1.cell? ⟨w.heap.size, 0, none⟩ = some (ptr P) := (hcc _ _ (by first | (simp; done) | (simp; omega))).trans (by go_simp); have t2 : w1.cell? ⟨w.heap.size + 1, 0, none⟩ = some (.pointer (some ⟨b, o, none⟩)) := (hcc _ _ (by first | (simp; done) | (simp; omega))).trans (by go_simp); have t3 : w1.cell? ⟨b, o + 4, none⟩ = some (ptr qv) := (hcc _ _ (by first | (simp; done) | (simp; omega))).trans (by go_simp); have t4 := hb1.size; simp at t4; have u1 : w.heap.size < w1.heap.size := (by omega); have u2 : w.heap.size + 1 < w1.heap.size := (by omega); have u3 : b < w1.heap.size := (by omega)))
  all_goals first
  |(obtain ⟨g1, g2, g3⟩ := late (HB0.out.trans ((zu hb1).mono HB0.out.size)) hcl; have g4 : Hid (_ ∧ _) := ⟨zc (zx (zu hb1) HG.out.1) (.cells #[.func (.func k1) #[] cp1] 245), zc (zx (zu hb1) HG.out.2.1) (.cells #[.func (.func k1) #[] cp1] 245)⟩; clear hcc hff; have G1 : Hid (_ ∧ _ ∧ _) := ⟨g1, g2, g3⟩; clear g1 g2 g3; go_wp2_with fail; go_meet; exact ⟨_, _, rfl, G1.out.1, G1.out.2.1, G1.out.2.2, g4.out.1, g4.out.2⟩)
  |(obtain ⟨g1, g2, g3⟩ := early HB0.out (zu hb1) hcl; have g4 : Hid (_ ∧ _) := ⟨qJ (zu hb1) HG.out.1 (.func (.func k1) #[] cp1), qJ (zu hb1) HG.out.2.1 (.func (.func k1) #[] cp1)⟩; clear hcc hff; have G1 : Hid (_ ∧ _ ∧ _) := ⟨g1, g2, g3⟩; clear g1 g2 g3; go_wp2_with fail; go_meet; exact ⟨_, _, rfl, G1.out.1, G1.out.2.1, G1.out.2.2, g4.out.1, g4.out.2⟩)
 case rest =>
  obtain ⟨b5, x1, rfl, HF⟩ := hcut
  obtain ⟨w9, hw9⟩ : ∃ w9, w9 = wc := ⟨_, rfl⟩
  rw [← hw9] at HF ⊢
  clear hw9
  have d1 : w9.cell? ⟨w.heap.size + 1, 0, none⟩ = some (.pointer (some ⟨b, o, none⟩)) := z_ (i := 0) HF.out.2.2.2.2 rfl
  have d2 : w9.cell? ⟨b, o, none⟩ = some (.int .i64 8) := by rw [HF.out.2.2.1.cell (p := ⟨b, o, none⟩) hlt]; exact HC0.out
  clear p1 p2 p3
  go_wp2
  go_ret
  obtain ⟨f1, f2, f3, f4, f5⟩ := HF.out
  refine ⟨_, _, rfl, ?_, f3⟩
  rw [ClB]
  exact ⟨_, [], rfl, by rw [ClB], .inr (.inr (.inr (.inr (.inr (.inl ⟨rfl, b5, x1, rfl, f1, f2⟩)))))⟩
theorem cm_var {a : Int} {nm : By} {ix v th el : Tr} (hv : CmE v) (hnv : IsNd v) : CmS (st 1 a nm ix v th el) := by
 rintro c a' nm' ix' v' th' el' e S w P b o vi vv vt ve h
 obtain ⟨rfl, rfl, rfl, rfl, rfl, rfl, rfl⟩ := st_inj e
 obtain ⟨qv, hqv⟩ := q_ hnv h.v
 injection hqv with hqv
 subst hqv
 have HC : Hid (∀ W, Below w.heap.size w W → Calls Tryz.prog 138 #[ptr P, ptr qv] W (CmP P v W)) := fun W hb => hv S W P _ (zD hb h.v)
 obtain ⟨cs, h1, h2, h3, -, h4, -⟩ := h.cells
 have c0 : w.cell? ⟨b, o, none⟩ = some (.int .i64 1) := z_ h1 h2
 have c4 : w.cell? ⟨b, o + 4, none⟩ = some (ptr qv) := z_ h1 h4
 have hlt : b < w.heap.size := (Array.getElem?_eq_some_iff.1 h1).1
 have hmf := mkf
 have HSc : Hid (w.heap[b]? = some (.cells cs 147) ∧ cs[o + 2]? = some (str nm)) := ⟨h1, h3⟩
 clear h h1 h2 h3 h4 hv hnv e
 go_enter Tryz.func86, Tryz.ntmps86
 go_upto_region 8 with fail
 obtain ⟨W0, hW0⟩ : ∃ W0, W0 = (w.alloc (.cells #[ptr P] 57)).alloc (.cells #[.pointer (some ⟨b, o, none⟩)] 186) := ⟨_, rfl⟩
 have hB0 : Below w.heap.size w W0 := by rw [hW0]; exact jo _ _ _
 have HB0 : Hid (Below w.heap.size w W0) := hB0
 have hS0 : W0.heap.size = w.heap.size + 2 := by rw [hW0]; simp
 have HS0 : Hid (W0.heap.size = w.heap.size + 2) := hS0
 have HG : Hid (W0.heap[w.heap.size]? = some (.cells #[ptr P] 57) ∧ W0.heap[w.heap.size + 1]? = some (.cells #[.pointer (some ⟨b, o, none⟩)] 186) ∧ W0.heap[b]? = some (.cells cs 147)) := by
  show _ ∧ _ ∧ _
  rw [hW0]; exact ⟨al1 _ _ _, al2 _ _ _, zc (zc HSc.out.1 _) _⟩
 have p1 : W0.cell? ⟨w.heap.size, 0, none⟩ = some (ptr P) := z_ (i := 0) HG.out.1 rfl
 have p2 : W0.cell? ⟨w.heap.size + 1, 0, none⟩ = some (.pointer (some ⟨b, o, none⟩)) := z_ (i := 0) HG.out.2.1 rfl
 have p3 : W0.cell? ⟨b, o + 4, none⟩ = some (ptr qv) := by rw [hB0.cell (p := ⟨b, o + 4, none⟩) hlt]; exact c4
 have HC0 : Hid (w.cell? ⟨b, o, none⟩ = some (.int .i64 1)) := c0
 have hz : w.heap.size + 1 < W0.heap.size := by omega
 have hz0 : w.heap.size < W0.heap.size := by omega
 have hq0 : b < W0.heap.size := by omega
 have m1 : w.heap.size ≠ W0.heap.size := by omega
 have m2 : w.heap.size + 1 ≠ W0.heap.size := by omega
 have m3 : b ≠ W0.heap.size := by omega
 rw [← hW0]
 clear hW0 c0 c4 hB0 hS0
 go_cut [5] (fun v5 wx => ∃ b5 x1, v5 = ptr b5 ∧ Hid (wx.heap[b5]? = some (.cells #[x1] 245) ∧ ClE wx P v x1 ∧ Below w.heap.size w wx ∧ wx.heap[w.heap.size]? = some (.cells #[ptr P] 57) ∧ wx.heap[w.heap.size + 1]? = some (.cells #[.pointer (some ⟨b, o, none⟩)] 186)))
 case first =>
  go_region_held3 (fun w' => w'.cell? ⟨w.heap.size, 0, none⟩ = some (ptr P) ∧ w'.cell? ⟨w.heap.size + 1, 0, none⟩ = some (.pointer (some ⟨b, o, none⟩)) ∧ w'.cell? ⟨b, o + 4, none⟩ = some (ptr qv))
  (first | (go_keep; done) | ((try dsimp only); refine ⟨?_, ?_, ?_⟩ <;> first | (go_keep; done) | (go_simp; done) | (simp [*]; done) | (rw [World.cell?_setCell_other (by intro e; injection e; omega)]; assumption)))
  (first | (go_at_call 138; refine (HC.out _ (by first | exact HB0.out.drew | exact (HB0.out.alloc (by have := HS0.out; omega) _).drew | exact (HB0.out.drew.alloc (by have := HS0.out; simp; omega) _))).mono ?_; rintro e w1 ⟨k1, cp1, rfl, hcl, hb1⟩; have hcc := fun b o h => hb1.cell (p := ⟨b, o, none⟩) h; have hff := fun b o h => hb1.frozen (p := ⟨b, o, none⟩) h; have t1 : w1.cell? ⟨w.heap.size, 0, none⟩ = some (ptr P) := (hcc _ _ (by first | (simp; done) | (simp; omega))).trans (by go_simp); have t2 : w1.cell? ⟨w.heap.size + 1, 0, none⟩ = some (.pointer (some ⟨b, o, none⟩)) := (hcc _ _ (by first | (simp; done) | (simp; omega))).trans (by go_simp); have t3 : w1.cell? ⟨b, o + 4, none⟩ = some (ptr qv) := (hcc _ _ (by first | (simp; done) | (simp; omega))).trans (by go_simp); have t4 := hb1.size; simp at t4; have u1 : w.heap.size < w1.heap.size := (by omega); have u2 : w.heap.size + 1 < w1.heap.size := (by omega); have u3 : b < w1.heap.size := (by omega)))
  all_goals first
  |(obtain ⟨g1, g2, g3⟩ := late (HB0.out.trans ((zu hb1).mono HB0.out.size)) hcl; have g4 : Hid (_ ∧ _) := ⟨zc (zx (zu hb1) HG.out.1) (.cells #[.func (.func k1) #[] cp1] 245), zc (zx (zu hb1) HG.out.2.1) (.cells #[.func (.func k1) #[] cp1] 245)⟩; clear hcc hff; have G1 : Hid (_ ∧ _ ∧ _) := ⟨g1, g2, g3⟩; clear g1 g2 g3; go_wp2_with fail; go_meet; exact ⟨_, _, rfl, G1.out.1, G1.out.2.1, G1.out.2.2, g4.out.1, g4.out.2⟩)
  |(obtain ⟨g1, g2, g3⟩ := early HB0.out (zu hb1) hcl; have g4 : Hid (_ ∧ _) := ⟨qJ (zu hb1) HG.out.1 (.func (.func k1) #[] cp1), qJ (zu hb1) HG.out.2.1 (.func (.func k1) #[] cp1)⟩; clear hcc hff; have G1 : Hid (_ ∧ _ ∧ _) := ⟨g1, g2, g3⟩; clear g1 g2 g3; go_wp2_with fail; go_meet; exact ⟨_, _, rfl, G1.out.1, G1.out.2.1, G1.out.2.2, g4.out.1, g4.out.2⟩)
 case rest =>
  obtain ⟨b5, x1, rfl, HF⟩ := hcut
  obtain ⟨w9, hw9⟩ : ∃ w9, w9 = wc := ⟨_, rfl⟩
  rw [← hw9] at HF ⊢
  clear hw9
  have d1 : w9.cell? ⟨w.heap.size + 1, 0, none⟩ = some (.pointer (some ⟨b, o, none⟩)) := z_ (i := 0) HF.out.2.2.2.2 rfl
  have d2 : w9.cell? ⟨b, o, none⟩ = some (.int .i64 1) := by rw [HF.out.2.2.1.cell (p := ⟨b, o, none⟩) hlt]; exact HC0.out
  clear p1 p2 p3
  go_wp2
  go_ret
  obtain ⟨f1, f2, f3, f4, f5⟩ := HF.out
  refine ⟨_, _, rfl, ?_, f3⟩
  rw [ClB]
  exact ⟨_, [], rfl, by rw [ClB], .inr (.inr (.inr (.inr (.inr (.inr ⟨.inl rfl, b5, w.heap.size + 1, x1, rfl, f1, ⟨b, o, f5, cs, zx f3 HSc.out.1, HSc.out.2⟩, f2⟩)))))⟩
theorem cm_set {a : Int} {nm : By} {ix v th el : Tr} (hv : CmE v) (hnv : IsNd v) : CmS (st 2 a nm ix v th el) := by
 rintro c a' nm' ix' v' th' el' e S w P b o vi vv vt ve h
 obtain ⟨rfl, rfl, rfl, rfl, rfl, rfl, rfl⟩ := st_inj e
 obtain ⟨qv, hqv⟩ := q_ hnv h.v
 injection hqv with hqv
 subst hqv
 have HC : Hid (∀ W, Below w.heap.size w W → Calls Tryz.prog 138 #[ptr P, ptr qv] W (CmP P v W)) := fun W hb => hv S W P _ (zD hb h.v)
 obtain ⟨cs, h1, h2, h3, -, h4, -⟩ := h.cells
 have c0 : w.cell? ⟨b, o, none⟩ = some (.int .i64 2) := z_ h1 h2
 have c4 : w.cell? ⟨b, o + 4, none⟩ = some (ptr qv) := z_ h1 h4
 have hlt : b < w.heap.size := (Array.getElem?_eq_some_iff.1 h1).1
 have hmf := mkf
 have HSc : Hid (w.heap[b]? = some (.cells cs 147) ∧ cs[o + 2]? = some (str nm)) := ⟨h1, h3⟩
 clear h h1 h2 h3 h4 hv hnv e
 go_enter Tryz.func86, Tryz.ntmps86
 go_upto_region 8 with fail
 obtain ⟨W0, hW0⟩ : ∃ W0, W0 = (w.alloc (.cells #[ptr P] 57)).alloc (.cells #[.pointer (some ⟨b, o, none⟩)] 186) := ⟨_, rfl⟩
 have hB0 : Below w.heap.size w W0 := by rw [hW0]; exact jo _ _ _
 have HB0 : Hid (Below w.heap.size w W0) := hB0
 have hS0 : W0.heap.size = w.heap.size + 2 := by rw [hW0]; simp
 have HS0 : Hid (W0.heap.size = w.heap.size + 2) := hS0
 have HG : Hid (W0.heap[w.heap.size]? = some (.cells #[ptr P] 57) ∧ W0.heap[w.heap.size + 1]? = some (.cells #[.pointer (some ⟨b, o, none⟩)] 186) ∧ W0.heap[b]? = some (.cells cs 147)) := by
  show _ ∧ _ ∧ _
  rw [hW0]; exact ⟨al1 _ _ _, al2 _ _ _, zc (zc HSc.out.1 _) _⟩
 have p1 : W0.cell? ⟨w.heap.size, 0, none⟩ = some (ptr P) := z_ (i := 0) HG.out.1 rfl
 have p2 : W0.cell? ⟨w.heap.size + 1, 0, none⟩ = some (.pointer (some ⟨b, o, none⟩)) := z_ (i := 0) HG.out.2.1 rfl
 have p3 : W0.cell? ⟨b, o + 4, none⟩ = some (ptr qv) := by rw [hB0.cell (p := ⟨b, o + 4, none⟩) hlt]; exact c4
 have HC0 : Hid (w.cell? ⟨b, o, none⟩ = some (.int .i64 2)) := c0
 have hz : w.heap.size + 1 < W0.heap.size := by omega
 have hz0 : w.heap.size < W0.heap.size := by omega
 have hq0 : b < W0.heap.size := by omega
 have m1 : w.heap.size ≠ W0.heap.size := by omega
 have m2 : w.heap.size + 1 ≠ W0.heap.size := by omega
 have m3 : b ≠ W0.heap.size := by omega
 rw [← hW0]
 clear hW0 c0 c4 hB0 hS0
 go_cut [5] (fun v5 wx => ∃ b5 x1, v5 = ptr b5 ∧ Hid (wx.heap[b5]? = some (.cells #[x1] 245) ∧ ClE wx P v x1 ∧ Below w.heap.size w wx ∧ wx.heap[w.heap.size]? = some (.cells #[ptr P] 57) ∧ wx.heap[w.heap.size + 1]? = some (.cells #[.pointer (some ⟨b, o, none⟩)] 186)))
 case first =>
  go_region_held3 (fun w' => w'.cell? ⟨w.heap.size, 0, none⟩ = some (ptr P) ∧ w'.cell? ⟨w.heap.size + 1, 0, none⟩ = some (.pointer (some ⟨b, o, none⟩)) ∧ w'.cell? ⟨b, o + 4, none⟩ = some (ptr qv))
  (first | (go_keep; done) | ((try dsimp only); refine ⟨?_, ?_, ?_⟩ <;> first | (go_keep; done) | (go_simp; done) | (simp [*]; done) | (rw [World.cell?_setCell_other (by intro e; injection e; omega)]; assumption)))
  (first | (go_at_call 138; refine (HC.out _ (by first | exact HB0.out.drew | exact (HB0.out.alloc (by have := HS0.out; omega) _).drew | exact (HB0.out.drew.alloc (by have := HS0.out; simp; omega) _))).mono ?_; rintro e w1 ⟨k1, cp1, rfl, hcl, hb1⟩; have hcc := fun b o h => hb1.cell (p := ⟨b, o, none⟩) h; have hff := fun b o h => hb1.frozen (p := ⟨b, o, none⟩) h; have t1 : w1.cell? ⟨w.heap.size, 0, none⟩ = some (ptr P) := (hcc _ _ (by first | (simp; done) | (simp; omega))).trans (by go_simp); have t2 : w1.cell? ⟨w.heap.size + 1, 0, none⟩ = some (.pointer (some ⟨b, o, none⟩)) := (hcc _ _ (by first | (simp; done) | (simp; omega))).trans (by go_simp); have t3 : w1.cell? ⟨b, o + 4, none⟩ = some (ptr qv) := (hcc _ _ (by first | (simp; done) | (simp; omega))).trans (by go_simp); have t4 := hb1.size; simp at t4; have u1 : w.heap.size < w1.heap.size := (by omega); have u2 : w.heap.size + 1 < w1.heap.size := (by omega); have u3 : b < w1.heap.size := (by omega)))
  all_goals first
  |(obtain ⟨g1, g2, g3⟩ := late (HB0.out.trans ((zu hb1).mono HB0.out.size)) hcl; have g4 : Hid (_ ∧ _) := ⟨zc (zx (zu hb1) HG.out.1) (.cells #[.func (.func k1) #[] cp1] 245), zc (zx (zu hb1) HG.out.2.1) (.cells #[.func (.func k1) #[] cp1] 245)⟩; clear hcc hff; have G1 : Hid (_ ∧ _ ∧ _) := ⟨g1, g2, g3⟩; clear g1 g2 g3; go_wp2_with fail; go_meet; exact ⟨_, _, rfl, G1.out.1, G1.out.2.1, G1.out.2.2, g4.out.1, g4.out.2⟩)
  |(obtain ⟨g1, g2, g3⟩ := early HB0.out (zu hb1) hcl; have g4 : Hid (_ ∧ _) := ⟨qJ (zu hb1) HG.out.1 (.func (.func k1) #[] cp1), qJ (zu hb1) HG.out.2.1 (.func (.func k1) #[] cp1)⟩; clear hcc hff; have G1 : Hid (_ ∧ _ ∧ _) := ⟨g1, g2, g3⟩; clear g1 g2 g3; go_wp2_with fail; go_meet; exact ⟨_, _, rfl, G1.out.1, G1.out.2.1, G1.out.2.2, g4.out.1, g4.out.2⟩)
 case rest =>
  obtain ⟨b5, x1, rfl, HF⟩ := hcut
  obtain ⟨w9, hw9⟩ : ∃ w9, w9 = wc := ⟨_, rfl⟩
  rw [← hw9] at HF ⊢
  clear hw9
  have d1 : w9.cell? ⟨w.heap.size + 1, 0, none⟩ = some (.pointer (some ⟨b, o, none⟩)) := z_ (i := 0) HF.out.2.2.2.2 rfl
  have d2 : w9.cell? ⟨b, o, none⟩ = some (.int .i64 2) := by rw [HF.out.2.2.1.cell (p := ⟨b, o, none⟩) hlt]; exact HC0.out
  clear p1 p2 p3
  go_wp2
  go_ret
  obtain ⟨f1, f2, f3, f4, f5⟩ := HF.out
  refine ⟨_, _, rfl, ?_, f3⟩
  rw [ClB]
  exact ⟨_, [], rfl, by rw [ClB], .inr (.inr (.inr (.inr (.inr (.inr ⟨.inr rfl, b5, w.heap.size + 1, x1, rfl, f1, ⟨b, o, f5, cs, zx f3 HSc.out.1, HSc.out.2⟩, f2⟩)))))⟩
abbrev IsT (x : Tr) : Prop := ∃ c a nm ix v th el, x = st c a nm ix v th el
theorem stm_cells {S : Nat → Prop} {w : World} : ∀ (xs : List Tr) (cs : List Value), (∀ x ∈ xs, IsT x) → StAt S w (chain xs) cs → cs.length = xs.length * 7 ∧ ∀ (i : Nat) (x : Tr), xs[i]? = some x →
  ∃ c a nm ix v th el vi vv vt ve, x = st c a nm ix v th el ∧ cs[i * 7]? = some (.int .i64 c) ∧ cs[i * 7 + 2]? = some (str nm) ∧ cs[i * 7 + 3]? = some (.pointer vi) ∧ cs[i * 7 + 4]? = some (.pointer vv) ∧ cs[i * 7 + 5]? = some vt ∧ cs[i * 7 + 6]? = some ve ∧ ExAt S w ix (.pointer vi) ∧ ExAt S w v (.pointer vv) ∧ (∃ nt ts, RowS S w 147 7 vt nt ts ∧ StAt S w th ts) ∧ (∃ ne es, RowS S w 147 7 ve ne es ∧ StAt S w el es)
 | [], cs, _, h => by
  unfold chain at h
  rw [StAt] at h
  subst h
  exact ⟨rfl, fun i x hx => by simp at hx⟩
 | x :: xs, cs, hx, h => by
  obtain ⟨c, a, nm, ix, v, th, el, rfl⟩ := hx x (by simp)
  unfold chain at h
  rw [StAt] at h
  obtain ⟨vi, vv, vt, ve, nt, ne, ts, es, rest, rfl, a1, a2, a3, a4, a5, a6, a7⟩ := h
  obtain ⟨b1, b2⟩ := stm_cells xs rest (fun y hy => hx y (by simp [hy])) a7
  refine ⟨by simp [b1]; omega, fun i y hy => ?_⟩
  cases i with
  | zero =>
   simp only [List.getElem?_cons_zero, Option.some.injEq] at hy
   subst hy
   exact ⟨c, a, nm, ix, v, th, el, vi, vv, vt, ve, rfl, rfl, rfl, rfl, rfl, rfl, rfl, a1, a2, ⟨nt, ts, a3, a4⟩, ⟨ne, es, a5, a6⟩⟩
  | succ i =>
   simp only [List.getElem?_cons_succ] at hy
   obtain ⟨c', a', nm', ix', v', th', el', vi', vv', vt', ve', e, q0, q2, q3, q4, q5, q6, q⟩ := b2 i y hy
   have k : ∀ j, ([.int .i64 c, .int .i64 a, str nm, .pointer vi, .pointer vv, vt, ve] ++ rest)[(i + 1) * 7 + j]? = rest[i * 7 + j]? := fun j => by
    rw [List.getElem?_append_right (by simp; omega)]
    congr 1
    simp
    omega
   exact ⟨c', a', nm', ix', v', th', el', vi', vv', vt', ve', e, (k 0).trans q0, (k 2).trans q2, (k 3).trans q3, (k 4).trans q4, (k 5).trans q5, (k 6).trans q6, q⟩
theorem clb_of {w : World} {P : Nat} : ∀ (xs : List Tr) (zs : List Value), (∀ x ∈ xs, IsT x) → zs.length = xs.length → (∀ (i : Nat) (x : Tr) (u : Value), xs[i]? = some x → zs[i]? = some u → ClB w P (cc x ce) [u]) → ClB w P (chain xs) zs
 | [], zs, _, hl, _ => by
  have : zs = [] := by simpa using hl
  subst this
  unfold chain
  rw [ClB]
 | x :: xs, zs, hx, hl, h => by
  cases zs with
  | nil => simp at hl
  | cons z zs =>
   obtain ⟨c, a, nm, ix, v, th, el, rfl⟩ := hx x (by simp)
   have h0 := h 0 _ z rfl rfl
   have h1 := clb_of xs zs (fun y hy => hx y (by simp [hy])) (by simpa using hl) fun i x' u hx hu => h (i + 1) x' u (by simpa using hx) (by simpa using hu)
   unfold chain
   rw [ClB] at h0 ⊢
   obtain ⟨u, rest, e, _, h0⟩ := h0
   injection e with e1 e2
   subst e1
   exact ⟨z, zs, rfl, h1, h0⟩
theorem info67 : (Tryz.prog.info? 67).map (fun i => (i.zero, i.size, i.bytes)) = some (some .nilFunc, 1, 8) := by kernel_rfl
theorem mk_acts (n : Nat) (hn : n ≤ 1000000) (w : World) : (Instr.makeSlice 184 (.int .i64 (n : Int)) (.int .i64 (n : Int))).run Tryz.prog w = .ok (.slice (some ⟨w.heap.size, 0, none⟩) n n) (w.alloc (.cells (List.replicate n Value.nilFunc).toArray 67)) := by
 obtain ⟨i, hi, hz0, hz1, hz2⟩ := qt info67
 have := run_makeSlice w 184 67 i _ Tryz.underlying184 hi hz0 .i64 .i64 (n : Int) (n : Int) (by omega) (by omega) (by rw [hz1]; simp; omega) (by rw [hz2]; omega) (by omega)
 rw [hz1] at this
 simp only [Int.toNat_natCast, made_nil] at this
 exact this
structure BkI (w : World) (P : Nat) (xs : List Tr) (n : Nat) (wr : World) (i : Nat) : Prop where
 at' : ∃ zs : List Value, zs.length = i ∧ Below w.heap.size w wr ∧ w.heap.size + 1 + 1 < wr.heap.size ∧ wr.heap[w.heap.size]? = some (.cells #[ptr P] 57) ∧
  wr.heap[w.heap.size + 1]? = some (.cells (zs ++ List.replicate (n - i) Value.nilFunc).toArray 67) ∧ wr.heap[w.heap.size + 1 + 1]? = some (.cells #[.slice (some ⟨w.heap.size + 1, 0, none⟩) n n] 184) ∧
  ∀ (j : Nat) (x : Tr) (u : Value), xs[j]? = some x → zs[j]? = some u → ClB wr P (cc x ce) [u]
theorem bk_start (w : World) (P : Nat) (xs : List Tr) (n : Nat) : BkI w P xs n (((w.alloc (.cells #[ptr P] 57)).alloc (.cells (Array.replicate n Value.nilFunc) 67)).alloc (.cells #[.slice (some ⟨w.heap.size + 1, 0, none⟩) n n] 184)) 0 := by
 have er : Array.replicate n Value.nilFunc = (List.replicate n Value.nilFunc).toArray := by simp
 rw [er]
 refine ⟨⟨[], rfl, (jo _ _ _).alloc (by simp; omega) _, by simp, zc (al1 _ _ _) _, zc (al2 _ _ _) _, ?_, fun j x u _ hu => by simp at hu⟩⟩
 have := heap_alloc_last ((w.alloc (.cells #[ptr P] 57)).alloc (.cells (List.replicate n Value.nilFunc).toArray 67)) (.cells #[.slice (some ⟨w.heap.size + 1, 0, none⟩) n n] 184)
 simpa using this
theorem bk_next {w : World} {P : Nat} {xs : List Tr} {n : Nat} {wr w1 : World} {i : Nat} {x : Tr} {u : Value} (h : BkI w P xs n wr i) (hi : i < n) (hx : xs[i]? = some x) (hb : Below wr.heap.size wr w1) (hc : ClB w1 P (cc x ce) [u]) : BkI w P xs n (w1.setCell ⟨w.heap.size + 1, i, none⟩ u) (i + 1) := by
 obtain ⟨zs, hz, h1, hz3, h2, h4, h5, h6⟩ := h.at'
 have k4 : w1.heap[w.heap.size + 1]? = some (.cells (zs ++ List.replicate (n - i) Value.nilFunc).toArray 67) := by rw [hb.block _ (by omega)]; exact h4
 have hks : Ks w1 (w1.setCell ⟨w.heap.size + 1, i, none⟩ u) := Ks.set' (.inr rfl) k4 (by simp; right; omega)
 have ho : ∀ b, b < wr.heap.size → b ≠ w.heap.size + 1 → (w1.setCell ⟨w.heap.size + 1, i, none⟩ u).heap[b]? = wr.heap[b]? := fun b hb1 hb2 => by rw [heap_setCell_other _ _ _ _ hb2, hb.block b hb1]
 refine ⟨⟨zs ++ [u], by simp [hz], (h1.trans (hb.mono (by omega))).setCell (p := ⟨w.heap.size + 1, i, none⟩) (by show w.heap.size ≤ w.heap.size + 1; omega) _, ?_, by rw [ho _ (by omega) (by omega)]; exact h2, ?_, by rw [ho _ (by omega) (by omega)]; exact h5, fun j x' u' hx' hu' => ?_⟩⟩
 ·have := hb.size
  have e : (w1.setCell ⟨w.heap.size + 1, i, none⟩ u).heap.size = w1.heap.size := by simp [World.setCell]
  omega
 ·rw [← fill_set zs n i u hz hi]
  exact heap_setCell_same _ _ _ _ _ _ k4
 ·refine ClB.kept hks _ _ ?_
  by_cases hj : j < i
  ·rw [List.getElem?_append_left (by omega)] at hu'
   exact (h6 j x' u' hx' hu').below hb
  ·rw [List.getElem?_append_right (by omega)] at hu'
   obtain rfl : j = i := by
    have := (List.getElem?_eq_some_iff.1 hu').1
    simp at this
    omega
   rw [hz, Nat.sub_self] at hu'
   simp only [List.getElem?_cons_zero, Option.some.injEq] at hu'
   subst hu'
   rw [hx] at hx'
   injection hx' with hx'
   subst hx'
   exact hc
theorem bk_end {w : World} {P : Nat} {xs : List Tr} {n : Nat} {wr : World} (h : BkI w P xs n wr n) (hn : n = xs.length) (hxs : ∀ x ∈ xs, IsT x) : BlP P (chain xs) w (.returned (.func (.func 87) #[] #[ptr (w.heap.size + 1 + 1), ptr w.heap.size])) wr := by
 obtain ⟨zs, hz, h1, hz3, h2, h4, h5, h6⟩ := h.at'
 rw [Nat.sub_self, List.replicate_zero, List.append_nil] at h4
 exact ⟨_, rfl, ⟨w.heap.size + 1 + 1, w.heap.size, w.heap.size + 1, zs, rfl, by rw [hz]; exact h5, h4, h2, clb_of xs zs hxs (by omega) h6⟩, h1⟩
theorem blockm_walk {xs : List Tr} (hxs : ∀ x ∈ xs, CmS x ∧ IsT x) (h6 : xs.length ≤ 1000000) : CmB (chain xs) := by
 intro S w P v n0 cs hrow hst
 obtain ⟨hcl, hce⟩ := stm_cells xs cs (fun x hx => (hxs x hx).2) hst
 obtain ⟨pv, cv, hv, hcell⟩ : ∃ pv cv, v = .slice pv xs.length cv ∧ ∀ i, i < xs.length → ∃ g cur, pv = some ⟨g, 0, none⟩ ∧ w.heap[g]? = some (.cells cur 147) ∧ xs.length ≤ cv ∧ ∀ j, j < 7 → cur[i * 7 + j]? = cs[i * 7 + j]? := by
  obtain ⟨⟨e1, hh⟩, -⟩ := hrow
  have en : n0 = xs.length := by omega
  subst en
  rcases hh with ⟨rfl, e2⟩ | ⟨g, cap, cur, rfl, _, hg, hc, _, _, ht⟩
  ·rw [e2]
   exact ⟨none, 0, rfl, fun i hi => by omega⟩
  ·refine ⟨_, cap, rfl, fun i hi => ⟨g, cur, rfl, hg, hc, fun j hj => ?_⟩⟩
   rw [← ht, List.getElem?_take, if_pos (by omega)]
   simp
 subst hv
 obtain ⟨n, hn⟩ : ∃ n, n = xs.length := ⟨_, rfl⟩
 have HN : Hid (n = xs.length) := hn
 have hn6 : n ≤ 1000000 := by rw [hn]; exact h6
 rw [← hn] at hcell ⊢
 have hmf := mkf
 have hmk := mk_acts n hn6
 have HCe : Hid (∀ i, i < n → ∃ g cur, pv = some ⟨g, 0, none⟩ ∧ w.heap[g]? = some (.cells cur 147) ∧ n ≤ cv ∧ ∀ j, j < 7 → cur[i * 7 + j]? = cs[i * 7 + j]?) := hcell
 have HSc : Hid (∀ (i : Nat) (x : Tr), xs[i]? = some x → ∃ c a nm ix v th el vi vv vt ve, x = st c a nm ix v th el ∧ cs[i * 7]? = some (.int .i64 c) ∧ cs[i * 7 + 2]? = some (str nm) ∧ cs[i * 7 + 3]? = some (.pointer vi) ∧ cs[i * 7 + 4]? = some (.pointer vv) ∧ cs[i * 7 + 5]? = some vt ∧ cs[i * 7 + 6]? = some ve ∧ ExAt S w ix (.pointer vi) ∧ ExAt S w v (.pointer vv) ∧ (∃ nt ts, RowS S w 147 7 vt nt ts ∧ StAt S w th ts) ∧ (∃ ne es, RowS S w 147 7 ve ne es ∧ StAt S w el es)) := hce
 have HXs : Hid (∀ x ∈ xs, CmS x ∧ IsT x) := hxs
 clear hrow hst hcl hce hcell hn h6 hxs
 generalize hG : BlP P (chain xs) w = G
 have HG : Hid (BlP P (chain xs) w = G) := hG
 clear hG
 go_enter Tryz.func53, Tryz.ntmps53
 go_upto_region 2 with fail
 have HSt := bk_start w P xs n
 obtain ⟨W4, hW4⟩ : ∃ W4, W4 = ((w.alloc (.cells #[ptr P] 57)).alloc (.cells (Array.replicate n Value.nilFunc) 67)).alloc (.cells #[.slice (some ⟨w.heap.size + 1, 0, none⟩) n n] 184) := ⟨_, rfl⟩
 rw [← hW4] at HSt ⊢
 have HS0 : Hid (BkI w P xs n W4 0) := HSt
 clear hW4 HSt
 go_wp2_with fail
 go_loopw [12] (fun v wr => ∃ i : Nat, i ≤ n ∧ v = .int .i64 i ∧ Hid (BkI w P xs n wr i)) (fun v _ => n - (intOf v).toNat)
 case atStart => exact ⟨0, Nat.zero_le _, rfl, HS0⟩
 case round =>
  obtain ⟨i, hin, rfl, HI⟩ := hrel
  by_cases hlt2 : i < n
  ·obtain ⟨x, hx⟩ : ∃ x, xs[i]? = some x := ⟨xs[i]'(by rw [← HN.out]; exact hlt2), List.getElem?_eq_getElem _⟩
   obtain ⟨g, cur, rfl, hg, hcap, hgi⟩ := HCe.out i hlt2
   obtain ⟨c, a, nm, ix, v, th, el, vi, vv, vt, ve, ex, q0, q2, q3, q4, q5, q6, q7, q8, q9, q10⟩ := HSc.out i x hx
   have hcm := (HXs.out x (List.mem_of_getElem? hx)).1
   have hm : StM S w g (i * 7) c a nm ix v th el vi vv vt ve := ⟨⟨cur, hg, (hgi 0 (by omega)).trans q0, (hgi 2 (by omega)).trans q2, (hgi 3 (by omega)).trans q3, (hgi 4 (by omega)).trans q4, (hgi 5 (by omega)).trans q5, (hgi 6 (by omega)).trans q6⟩, q7, q8, q9, q10⟩
   obtain ⟨zs, hz, h1, hz3, h2, h4, h5, h6⟩ := HI.out.at'
   have e1 : wr.cell? ⟨w.heap.size, 0, none⟩ = some (ptr P) := z_ (i := 0) h2 rfl
   have e2 : wr.cell? ⟨w.heap.size + 1 + 1, 0, none⟩ = some (.slice (some ⟨w.heap.size + 1, 0, none⟩) n n) := z_ (i := 0) h5 rfl
   have e4 : wr.cell? ⟨w.heap.size + 1, i, none⟩ = some Value.nilFunc := z_ h4 (fill_at zs n i hz hlt2)
   have f4 : wr.frozen? ⟨w.heap.size + 1, i, none⟩ = false := by simp [World.frozen?, h4]
   have hz0 : w.heap.size < wr.heap.size := by omega
   have HB1 : Hid (Below w.heap.size w wr) := h1
   have HX : Hid (xs[i]? = some x) := hx
   have HC : Hid (∀ W, Below w.heap.size w W → Calls Tryz.prog 86 #[ptr P, .pointer (some ⟨g, i * 7, none⟩)] W (CsP P x W)) := fun W hb => hcm c a nm ix v th el ex S W P g (i * 7) vi vv vt ve (hm.below hb)
   have hl9 : (i : Int) < (n : Int) := by omega
   clear hx hg hgi hcm h1 h2 h4 h5 h6 hz q0 q2 q3 q4 q5 q6 q7 q8 q9 q10 hm ex
   go_wp2_with fail
   go_region_held3 (fun w' => w'.cell? ⟨w.heap.size, 0, none⟩ = some (ptr P) ∧ w'.cell? ⟨w.heap.size + 1 + 1, 0, none⟩ = some (.slice (some ⟨w.heap.size + 1, 0, none⟩) n n))
    (first | (go_keep; done) | ((try dsimp only); refine ⟨?_, ?_⟩ <;> first | (go_keep; done) | (go_simp; done) | (simp [*]; done) | (rw [World.cell?_setCell_other (by intro e; injection e; omega)]; assumption)))
    (first | (go_at_call 86; refine (HC.out _ (HB1.out.drew)).mono ?_; rintro e w1 ⟨k1, cp1, rfl, hcl, hb1⟩; have hcc := fun b o h => hb1.cell (p := ⟨b, o, none⟩) h; have hff := fun b o h => hb1.frozen (p := ⟨b, o, none⟩) h; have t1 : w1.cell? ⟨w.heap.size, 0, none⟩ = some (ptr P) := (hcc _ _ (by simp; omega)).trans (by go_simp); have t2 : w1.cell? ⟨w.heap.size + 1 + 1, 0, none⟩ = some (.slice (some ⟨w.heap.size + 1, 0, none⟩) n n) := (hcc _ _ (by simp; omega)).trans (by go_simp); have t4 : w1.cell? ⟨w.heap.size + 1, i, none⟩ = some Value.nilFunc := (hcc _ _ (by simp; omega)).trans (by go_simp); have t5 : w1.frozen? ⟨w.heap.size + 1, i, none⟩ = false := (hff _ _ (by simp; omega)).trans (by go_simp); have HI2 : Hid (BkI w P xs n (w1.setCell ⟨w.heap.size + 1, i, none⟩ (.func (.func k1) #[] cp1)) (i + 1)) := bk_next HI.out hlt2 HX.out (zu hb1) hcl; clear hcc hff hcl hb1))
   go_wp2
   exact ⟨⟨i + 1, by omega, by go_num, HI2⟩, by simp [intOf]; omega⟩
  ·have hin2 : i = n := by omega
   subst hin2
   have HE : Hid (G (.returned (.func (.func 87) #[] #[ptr (w.heap.size + 1 + 1), ptr w.heap.size])) wr) := by
    show G _ _
    rw [← HG.out]
    exact bk_end HI.out HN.out (fun x hx => (HXs.out x hx).2)
   go_wp2
   exact HE.out
theorem cm_all : ∀ (f d : Nat) (t : Tr), RE f d t → zy t → CmE t ∧ IsNd t
 | 0, _, _, h, _ => by rw [RE] at h; exact h.elim
 | f + 1, d, t, h, hg => by
  have hn : IsNd t := re_nd h
  refine ⟨?_, hn⟩
  rw [RE] at h
  obtain ⟨_, h⟩ := h
  rcases h with ⟨a, n, _, _, rfl⟩ | ⟨a, nm, _, rfl⟩ | ⟨a, op, l, r, _, hl, hr, rfl⟩ | ⟨a, op, l, _, hl, rfl⟩ | ⟨a, nm, xs, _, hx, rfl⟩ | ⟨a, l, hl, rfl⟩ | ⟨a, l, hl, rfl⟩ | ⟨a, l, r, hl, hr, rfl⟩ | ⟨a, rfl⟩
  all_goals rw [zy] at hg
  ·exact cm_num
  ·exact cm_name
  ·obtain ⟨_, _, _, _, _, _, gl, gr, _⟩ := hg
   have il := cm_all f _ l hl gl
   have ir := cm_all f _ r hr gr
   exact cm_bin il.1 il.2 ir.1 ir.2
  ·obtain ⟨_, _, _, _, _, _, gl, gr, _⟩ := hg
   have il := cm_all f _ l hl gl
   exact cm_un il.1 il.2
  ·obtain ⟨_, _, _, _, _, _, _, _, gg, ys, e, hlen⟩ := hg
   have hl2 : xs.length ≤ 1000000 := by
    have := congrArg chl e
    rw [qc, qc] at this
    omega
   have gx : ∀ (xs : List Tr), zy (chain xs) → ∀ x ∈ xs, zy x := fun xs => by
    induction xs with
    | nil => intro _ x hx; simp at hx
    | cons y ys ih =>
     intro h x hx
     unfold chain at h
     rw [zy] at h
     rcases List.mem_cons.1 hx with rfl | hx
     ·exact h.2.1
     ·exact ih h.2.2 x hx
   exact cm_call (fun x hx' => cm_all f _ x (hx x hx') (gx xs gg x hx')) hl2
  ·obtain ⟨_, _, _, _, _, _, gl, gr, _⟩ := hg
   have il := cm_all f _ l hl gl
   exact cm_new il.1 il.2
  ·obtain ⟨_, _, _, _, _, _, gl, gr, _⟩ := hg
   have il := cm_all f _ l hl gl
   exact cm_len il.1 il.2
  ·obtain ⟨_, _, _, _, _, _, gl, gr, _⟩ := hg
   have il := cm_all f _ l hl gl
   have ir := cm_all f _ r hr gr
   exact cm_item il.1 il.2 ir.1 ir.2
  ·exact cm_input
theorem qL {d : Nat} {t : Tr} (h : REx d t) (g : zy t) : CmE t ∧ IsNd t := by
 obtain ⟨e, h⟩ := h
 exact cm_all e d t h g
theorem goodS_in : ∀ (xs : List Tr), zM (chain xs) → ∀ x ∈ xs, zM (cc x ce)
 | [], _, x, hx => by simp at hx
 | y :: xs, h, x, hx => by
  have h' : zM (cc y (chain xs)) := h
  obtain ⟨c, a, nm, ix, v, th, el, rfl, h1, h2, h3, h4, h5, h6, h7, h8, h9, h10, h11⟩ := qQ h'
  rcases List.mem_cons.1 hx with rfl | hx
  ·exact qI h1 h2 h3 h4 h5 h6 h7 h8 h9 h10 zA
  ·exact goodS_in xs h11 x hx
theorem cms_all : ∀ (f d : Nat) (t : Tr), RS f d t → zM (cc t ce) → CmS t
 | 0, _, _, h, _ => h.elim
 | f + 1, d, t, h, hg => by
  have BL : ∀ (d : Nat) (xs : List Tr), (∀ x ∈ xs, RS f d x) → zM (chain xs) → chl (chain xs) ≤ 1000000 → CmB (chain xs) := fun d xs hx g hc => blockm_walk (fun x hx' => ⟨cms_all f d x (hx x hx') (goodS_in xs g x hx'), rs_st (hx x hx')⟩) (by rw [qc] at hc; exact hc)
  obtain ⟨c, a, nm, ix, v, th, el, rfl, h1, h2, h3, h4, h5, h6, h7, h8, h9, h10, h11⟩ := qQ hg
  rw [RS] at h
  rcases h with ⟨a', nm', v', hn, hv, e⟩ | ⟨a', nm', v', hn, hv, e⟩ | ⟨a', nm', i, v', hn, hi, hv, e⟩ | ⟨a', v', xs, ys, hd, hv, hx, hy, e⟩ | ⟨a', v', xs, hd, hv, hx, e⟩ | ⟨a', v', hv, e⟩ | ⟨a', v', hv, e⟩ | ⟨a', b, nm', xs, hn, ⟨e0, hx⟩, e⟩
  all_goals
   simp only [st, DataW.agg.injEq, List.cons.injEq, DataW.lit.injEq, Lit.int.injEq, Lit.string.injEq, true_and, and_true] at e
   obtain ⟨rfl, rfl, rfl, rfl, rfl, rfl, rfl⟩ := e
  ·exact cm_var (qL hv h6).1 (qL hv h6).2
  ·exact cm_set (qL hv h6).1 (qL hv h6).2
  ·exact cm_put (qL hi h4).1 (qL hi h4).2 (qL hv h6).1 (qL hv h6).2
  ·exact cm_if (qL hv h6).1 (qL hv h6).2 (BL _ xs hx h7 h8) (BL _ ys hy h9 h10)
  ·exact cm_while (qL hv h6).1 (qL hv h6).2 (BL _ xs hx h7 h8)
  ·exact cm_ret (qL hv h6).1 (qL hv h6).2
  ·exact cm_print (qL hv h6).1 (qL hv h6).2
  ·have hv : REx 0 (nd 5 b 0 nm' [] .nil .nil (chain xs)) := ⟨e0 + 1, by
    rw [RE]
    exact ⟨by omega, .inr (.inr (.inr (.inr (.inl ⟨_, _, _, hn, hx, rfl⟩))))⟩⟩
   exact cm_do (qL hv h6).1 (qL hv h6).2
theorem cmb_all {xs : List Tr} {e : Nat} (h : ∀ x ∈ xs, RS e 1 x) (g : zM (chain xs)) (hc : chl (chain xs) ≤ 1000000) : CmB (chain xs) := blockm_walk (fun x hx => ⟨cms_all e 1 x (h x hx) (goodS_in xs g x hx), rs_st (h x hx)⟩) (by rw [qc] at hc; exact hc)
end Go.Proofs.YtnfhpdbbfejioaaGreatDoor
