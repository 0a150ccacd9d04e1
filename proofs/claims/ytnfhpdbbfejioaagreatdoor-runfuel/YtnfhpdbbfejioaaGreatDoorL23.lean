/- Package run: every statement is made ready. -/
import Derived.Test.YtnfhpdbbfejioaaGreatDoorL21
import Derived.Test.YtnfhpdbbfejioaaGreatDoorL22
namespace Go.Proofs.YtnfhpdbbfejioaaGreatDoor
set_option linter.unusedVariables false
set_option linter.unusedSimpArgs false
open Go Go.RowKit
theorem st_inj {c a c' a' : Int} {nm nm' : By} {ix v th el ix' v' th' el' : Tr} (e : st c a nm ix v th el = st c' a' nm' ix' v' th' el') : c = c' ∧ a = a' ∧ nm = nm' ∧ ix = ix' ∧ v = v' ∧ th = th' ∧ el = el' := by
  simpa [st] using e
theorem cs_on {P : Nat} {x : Tr} {w W : World} {e : Ending} {w' : World} (hb : Below w.heap.size w W) (h : CsP P x W e w') : (∃ k cap, e = .returned (.func (.func k) #[] cap)) ∧ CsP P x w e w' := by
  obtain ⟨k, cap, e1, h1, h2⟩ := h
  exact ⟨⟨k, cap, e1⟩, k, cap, e1, h1, hb.trans (h2.mono hb.size)⟩
set_option maxRecDepth 100000 in
set_option maxHeartbeats 2000000 in
theorem cm_put {a : Int} {nm : By} {ix v th el : Tr} (hi : CmE ix) (hni : IsNd ix) (hv : CmE v) (hnv : IsNd v) : CmS (st 3 a nm ix v th el) := by
  rintro c a' nm' ix' v' th' el' e S w P b o vi vv vt ve h
  obtain ⟨rfl, rfl, rfl, rfl, rfl, rfl, rfl⟩ := st_inj e
  have HC : Hid (∀ W, Below w.heap.size w W → Calls Tryz.prog 135 #[ptr P, .pointer (some ⟨b, o, none⟩)] W fun e w' => (∃ k cap, e = .returned (.func (.func k) #[] cap)) ∧ CsP P (st 3 a nm ix v th el) w e w') := fun W hb => (put_walk hi hni hv hnv S W P b o vi vv vt ve (h.below hb)).mono fun e w' h => cs_on hb h
  obtain ⟨cs, h1, h2, -⟩ := h.cells
  have c0 : w.cell? ⟨b, o, none⟩ = some (.int .i64 3) := cell_at h1 h2
  have hlt : b < w.heap.size := (Array.getElem?_eq_some_iff.1 h1).1
  generalize CsP P (st 3 a nm ix v th el) w = G at HC ⊢
  clear h h1 h2 e
  go_enter Tryz.func86, Tryz.ntmps86
  go_wp2_with (go_at_call 135; fail)
  refine (HC.out _ (bel2 _ _ _)).mono ?_
  rintro e w1 ⟨⟨k1, cp1, rfl⟩, hg⟩
  have HH : Hid (G (.returned (.func (.func k1) #[] cp1)) w1) := hg
  clear hg
  go_wp2
  exact HH.out
set_option maxRecDepth 100000 in
set_option maxHeartbeats 2000000 in
theorem cm_if {a : Int} {nm : By} {ix v th el : Tr} (hv : CmE v) (hnv : IsNd v) (ht : CmB th) (he : CmB el) : CmS (st 4 a nm ix v th el) := by
  rintro c a' nm' ix' v' th' el' e S w P b o vi vv vt ve h
  obtain ⟨rfl, rfl, rfl, rfl, rfl, rfl, rfl⟩ := st_inj e
  have HC : Hid (∀ W, Below w.heap.size w W → Calls Tryz.prog 136 #[ptr P, .pointer (some ⟨b, o, none⟩)] W fun e w' => (∃ k cap, e = .returned (.func (.func k) #[] cap)) ∧ CsP P (st 4 a nm ix v th el) w e w') := fun W hb => (choice_walk hv hnv ht he S W P b o vi vv vt ve (h.below hb)).mono fun e w' h => cs_on hb h
  obtain ⟨cs, h1, h2, -⟩ := h.cells
  have c0 : w.cell? ⟨b, o, none⟩ = some (.int .i64 4) := cell_at h1 h2
  have hlt : b < w.heap.size := (Array.getElem?_eq_some_iff.1 h1).1
  generalize CsP P (st 4 a nm ix v th el) w = G at HC ⊢
  clear h h1 h2 e
  go_enter Tryz.func86, Tryz.ntmps86
  go_wp2_with (go_at_call 136; fail)
  refine (HC.out _ (bel2 _ _ _)).mono ?_
  rintro e w1 ⟨⟨k1, cp1, rfl⟩, hg⟩
  have HH : Hid (G (.returned (.func (.func k1) #[] cp1)) w1) := hg
  clear hg
  go_wp2
  exact HH.out
set_option maxRecDepth 100000 in
set_option maxHeartbeats 2000000 in
theorem cm_while {a : Int} {nm : By} {ix v th el : Tr} (hv : CmE v) (hnv : IsNd v) (ht : CmB th) : CmS (st 5 a nm ix v th el) := by
  rintro c a' nm' ix' v' th' el' e S w P b o vi vv vt ve h
  obtain ⟨rfl, rfl, rfl, rfl, rfl, rfl, rfl⟩ := st_inj e
  have HC : Hid (∀ W, Below w.heap.size w W → Calls Tryz.prog 137 #[ptr P, .pointer (some ⟨b, o, none⟩)] W fun e w' => (∃ k cap, e = .returned (.func (.func k) #[] cap)) ∧ CsP P (st 5 a nm ix v th el) w e w') := fun W hb => (loop_walk hv hnv ht S W P b o vi vv vt ve (h.below hb)).mono fun e w' h => cs_on hb h
  obtain ⟨cs, h1, h2, -⟩ := h.cells
  have c0 : w.cell? ⟨b, o, none⟩ = some (.int .i64 5) := cell_at h1 h2
  have hlt : b < w.heap.size := (Array.getElem?_eq_some_iff.1 h1).1
  generalize CsP P (st 5 a nm ix v th el) w = G at HC ⊢
  clear h h1 h2 e
  go_enter Tryz.func86, Tryz.ntmps86
  go_wp2_with (go_at_call 137; fail)
  refine (HC.out _ (bel2 _ _ _)).mono ?_
  rintro e w1 ⟨⟨k1, cp1, rfl⟩, hg⟩
  have HH : Hid (G (.returned (.func (.func k1) #[] cp1)) w1) := hg
  clear hg
  go_wp2
  exact HH.out
theorem early_old {W0 w1 : World} {b : Nat} {o : Obj} (hb1 : Below (W0.alloc (.cells #[.nilFunc] 245)).heap.size (W0.alloc (.cells #[.nilFunc] 245)) w1) (h : W0.heap[b]? = some o) (u : Value) : (w1.setCell ⟨W0.heap.size, 0, none⟩ u).heap[b]? = some o := by
  have hl := (Array.getElem?_eq_some_iff.1 h).1
  rw [heap_setCell_other _ _ _ _ (by show b ≠ W0.heap.size; omega)]
  exact blkm_at hb1 (row_alloc h _)
set_option maxRecDepth 100000 in
set_option maxHeartbeats 4000000 in
theorem cm_ret {a : Int} {nm : By} {ix v th el : Tr} (hv : CmE v) (hnv : IsNd v) : CmS (st 6 a nm ix v th el) := by
  rintro c a' nm' ix' v' th' el' e S w P b o vi vv vt ve h
  obtain ⟨rfl, rfl, rfl, rfl, rfl, rfl, rfl⟩ := st_inj e
  obtain ⟨qv, hqv⟩ := part_ptr hnv h.v
  injection hqv with hqv
  subst hqv
  have HC : Hid (∀ W, Below w.heap.size w W → Calls Tryz.prog 138 #[ptr P, ptr qv] W (CmP P v W)) := fun W hb => hv S W P _ (ex_below hb h.v)
  obtain ⟨cs, h1, h2, h3, -, h4, -⟩ := h.cells
  have c0 : w.cell? ⟨b, o, none⟩ = some (.int .i64 6) := cell_at h1 h2
  have c4 : w.cell? ⟨b, o + 4, none⟩ = some (ptr qv) := cell_at h1 h4
  have hlt : b < w.heap.size := (Array.getElem?_eq_some_iff.1 h1).1
  have hmf := mkf
  have HSc : Hid (w.heap[b]? = some (.cells cs 147) ∧ cs[o + 2]? = some (str nm)) := ⟨h1, h3⟩
  clear h h1 h2 h3 h4 hv hnv e
  go_enter Tryz.func86, Tryz.ntmps86
  go_upto_region 8 with fail
  obtain ⟨W0, hW0⟩ : ∃ W0, W0 = (w.alloc (.cells #[ptr P] 57)).alloc (.cells #[.pointer (some ⟨b, o, none⟩)] 186) := ⟨_, rfl⟩
  have hB0 : Below w.heap.size w W0 := by rw [hW0]; exact bel2 _ _ _
  have HB0 : Hid (Below w.heap.size w W0) := hB0
  have hS0 : W0.heap.size = w.heap.size + 2 := by rw [hW0]; simp
  have HS0 : Hid (W0.heap.size = w.heap.size + 2) := hS0
  have HG : Hid (W0.heap[w.heap.size]? = some (.cells #[ptr P] 57) ∧ W0.heap[w.heap.size + 1]? = some (.cells #[.pointer (some ⟨b, o, none⟩)] 186) ∧ W0.heap[b]? = some (.cells cs 147)) := by
    show _ ∧ _ ∧ _
    rw [hW0]; exact ⟨al1 _ _ _, al2 _ _ _, row_alloc (row_alloc HSc.out.1 _) _⟩
  have p1 : W0.cell? ⟨w.heap.size, 0, none⟩ = some (ptr P) := cell_at (i := 0) HG.out.1 rfl
  have p2 : W0.cell? ⟨w.heap.size + 1, 0, none⟩ = some (.pointer (some ⟨b, o, none⟩)) := cell_at (i := 0) HG.out.2.1 rfl
  have p3 : W0.cell? ⟨b, o + 4, none⟩ = some (ptr qv) := by rw [hB0.cell (p := ⟨b, o + 4, none⟩) hlt]; exact c4
  have HC0 : Hid (w.cell? ⟨b, o, none⟩ = some (.int .i64 6)) := c0
  have hz : w.heap.size + 1 < W0.heap.size := by omega
  have hz0 : w.heap.size < W0.heap.size := by omega
  have hq0 : b < W0.heap.size := by omega
  have m1 : w.heap.size ≠ W0.heap.size := by omega
  have m2 : w.heap.size + 1 ≠ W0.heap.size := by omega
  have m3 : b ≠ W0.heap.size := by omega
  rw [← hW0]
  clear hW0 c0 c4 hB0 hS0
  go_cut [5] (fun v5 wx => ∃ b5 x1, v5 = ptr b5 ∧ Hid (wx.heap[b5]? = some (.cells #[x1] 245) ∧ ClE wx P v x1 ∧ Below w.heap.size w wx ∧ wx.heap[w.heap.size]? = some (.cells #[ptr P] 57) ∧ wx.heap[w.heap.size + 1]? = some (.cells #[.pointer (some ⟨b, o, none⟩)] 186)))
  case first =>
   go_region_held3 (fun w' => w'.cell? ⟨w.heap.size, 0, none⟩ = some (ptr P) ∧ w'.cell? ⟨w.heap.size + 1, 0, none⟩ = some (.pointer (some ⟨b, o, none⟩)) ∧ w'.cell? ⟨b, o + 4, none⟩ = some (ptr qv))
    (first | (go_keep; done) | ((try dsimp only); refine ⟨?_, ?_, ?_⟩ <;> first | (go_keep; done) | (go_simp; done) | (simp [*]; done) | (rw [World.cell?_setCell_other (by intro e; injection e; omega)]; assumption)))
    (first | (go_at_call 138; refine (HC.out _ (by first | exact HB0.out.drew | exact (HB0.out.alloc (by have := HS0.out; omega) _).drew | exact (HB0.out.drew.alloc (by have := HS0.out; simp; omega) _))).mono ?_; rintro e w1 ⟨k1, cp1, rfl, hcl, hb1⟩; have hcc := fun b o h => hb1.cell (p := ⟨b, o, none⟩) h; have hff := fun b o h => hb1.frozen (p := ⟨b, o, none⟩) h; have t1 : w1.cell? ⟨w.heap.size, 0, none⟩ = some (ptr P) := (hcc _ _ (by first | (simp; done) | (simp; omega))).trans (by go_simp); have t2 : w1.cell? ⟨w.heap.size + 1, 0, none⟩ = some (.pointer (some ⟨b, o, none⟩)) := (hcc _ _ (by first | (simp; done) | (simp; omega))).trans (by go_simp); have t3 : w1.cell? ⟨b, o + 4, none⟩ = some (ptr qv) := (hcc _ _ (by first | (simp; done) | (simp; omega))).trans (by go_simp); have t4 := hb1.size; simp at t4; have u1 : w.heap.size < w1.heap.size := (by omega); have u2 : w.heap.size + 1 < w1.heap.size := (by omega); have u3 : b < w1.heap.size := (by omega)))
   all_goals first
    | (obtain ⟨g1, g2, g3⟩ := late (HB0.out.trans ((undrew hb1).mono HB0.out.size)) hcl; have g4 : Hid (_ ∧ _) := ⟨row_alloc (blkm_at (undrew hb1) HG.out.1) (.cells #[.func (.func k1) #[] cp1] 245), row_alloc (blkm_at (undrew hb1) HG.out.2.1) (.cells #[.func (.func k1) #[] cp1] 245)⟩; clear hcc hff; have G1 : Hid (_ ∧ _ ∧ _) := ⟨g1, g2, g3⟩; clear g1 g2 g3; go_wp2_with fail; go_meet; exact ⟨_, _, rfl, G1.out.1, G1.out.2.1, G1.out.2.2, g4.out.1, g4.out.2⟩)
    | (obtain ⟨g1, g2, g3⟩ := early HB0.out (undrew hb1) hcl; have g4 : Hid (_ ∧ _) := ⟨early_old (undrew hb1) HG.out.1 (.func (.func k1) #[] cp1), early_old (undrew hb1) HG.out.2.1 (.func (.func k1) #[] cp1)⟩; clear hcc hff; have G1 : Hid (_ ∧ _ ∧ _) := ⟨g1, g2, g3⟩; clear g1 g2 g3; go_wp2_with fail; go_meet; exact ⟨_, _, rfl, G1.out.1, G1.out.2.1, G1.out.2.2, g4.out.1, g4.out.2⟩)
  case rest =>
   obtain ⟨b5, x1, rfl, HF⟩ := hcut
   obtain ⟨w9, hw9⟩ : ∃ w9, w9 = wc := ⟨_, rfl⟩
   rw [← hw9] at HF ⊢
   clear hw9
   have d1 : w9.cell? ⟨w.heap.size + 1, 0, none⟩ = some (.pointer (some ⟨b, o, none⟩)) := cell_at (i := 0) HF.out.2.2.2.2 rfl
   have d2 : w9.cell? ⟨b, o, none⟩ = some (.int .i64 6) := by rw [HF.out.2.2.1.cell (p := ⟨b, o, none⟩) hlt]; exact HC0.out
   clear p1 p2 p3
   go_wp2
   go_ret
   obtain ⟨f1, f2, f3, f4, f5⟩ := HF.out
   refine ⟨_, _, rfl, ?_, f3⟩
   rw [ClB]
   exact ⟨_, [], rfl, by rw [ClB], .inr (.inr (.inr (.inl ⟨rfl, b5, x1, rfl, f1, f2⟩)))⟩
set_option maxRecDepth 100000 in
set_option maxHeartbeats 4000000 in
theorem cm_print {a : Int} {nm : By} {ix v th el : Tr} (hv : CmE v) (hnv : IsNd v) : CmS (st 7 a nm ix v th el) := by
  rintro c a' nm' ix' v' th' el' e S w P b o vi vv vt ve h
  obtain ⟨rfl, rfl, rfl, rfl, rfl, rfl, rfl⟩ := st_inj e
  obtain ⟨qv, hqv⟩ := part_ptr hnv h.v
  injection hqv with hqv
  subst hqv
  have HC : Hid (∀ W, Below w.heap.size w W → Calls Tryz.prog 138 #[ptr P, ptr qv] W (CmP P v W)) := fun W hb => hv S W P _ (ex_below hb h.v)
  obtain ⟨cs, h1, h2, h3, -, h4, -⟩ := h.cells
  have c0 : w.cell? ⟨b, o, none⟩ = some (.int .i64 7) := cell_at h1 h2
  have c4 : w.cell? ⟨b, o + 4, none⟩ = some (ptr qv) := cell_at h1 h4
  have hlt : b < w.heap.size := (Array.getElem?_eq_some_iff.1 h1).1
  have hmf := mkf
  have HSc : Hid (w.heap[b]? = some (.cells cs 147) ∧ cs[o + 2]? = some (str nm)) := ⟨h1, h3⟩
  clear h h1 h2 h3 h4 hv hnv e
  go_enter Tryz.func86, Tryz.ntmps86
  go_upto_region 8 with fail
  obtain ⟨W0, hW0⟩ : ∃ W0, W0 = (w.alloc (.cells #[ptr P] 57)).alloc (.cells #[.pointer (some ⟨b, o, none⟩)] 186) := ⟨_, rfl⟩
  have hB0 : Below w.heap.size w W0 := by rw [hW0]; exact bel2 _ _ _
  have HB0 : Hid (Below w.heap.size w W0) := hB0
  have hS0 : W0.heap.size = w.heap.size + 2 := by rw [hW0]; simp
  have HS0 : Hid (W0.heap.size = w.heap.size + 2) := hS0
  have HG : Hid (W0.heap[w.heap.size]? = some (.cells #[ptr P] 57) ∧ W0.heap[w.heap.size + 1]? = some (.cells #[.pointer (some ⟨b, o, none⟩)] 186) ∧ W0.heap[b]? = some (.cells cs 147)) := by
    show _ ∧ _ ∧ _
    rw [hW0]; exact ⟨al1 _ _ _, al2 _ _ _, row_alloc (row_alloc HSc.out.1 _) _⟩
  have p1 : W0.cell? ⟨w.heap.size, 0, none⟩ = some (ptr P) := cell_at (i := 0) HG.out.1 rfl
  have p2 : W0.cell? ⟨w.heap.size + 1, 0, none⟩ = some (.pointer (some ⟨b, o, none⟩)) := cell_at (i := 0) HG.out.2.1 rfl
  have p3 : W0.cell? ⟨b, o + 4, none⟩ = some (ptr qv) := by rw [hB0.cell (p := ⟨b, o + 4, none⟩) hlt]; exact c4
  have HC0 : Hid (w.cell? ⟨b, o, none⟩ = some (.int .i64 7)) := c0
  have hz : w.heap.size + 1 < W0.heap.size := by omega
  have hz0 : w.heap.size < W0.heap.size := by omega
  have hq0 : b < W0.heap.size := by omega
  have m1 : w.heap.size ≠ W0.heap.size := by omega
  have m2 : w.heap.size + 1 ≠ W0.heap.size := by omega
  have m3 : b ≠ W0.heap.size := by omega
  rw [← hW0]
  clear hW0 c0 c4 hB0 hS0
  go_cut [5] (fun v5 wx => ∃ b5 x1, v5 = ptr b5 ∧ Hid (wx.heap[b5]? = some (.cells #[x1] 245) ∧ ClE wx P v x1 ∧ Below w.heap.size w wx ∧ wx.heap[w.heap.size]? = some (.cells #[ptr P] 57) ∧ wx.heap[w.heap.size + 1]? = some (.cells #[.pointer (some ⟨b, o, none⟩)] 186)))
  case first =>
   go_region_held3 (fun w' => w'.cell? ⟨w.heap.size, 0, none⟩ = some (ptr P) ∧ w'.cell? ⟨w.heap.size + 1, 0, none⟩ = some (.pointer (some ⟨b, o, none⟩)) ∧ w'.cell? ⟨b, o + 4, none⟩ = some (ptr qv))
    (first | (go_keep; done) | ((try dsimp only); refine ⟨?_, ?_, ?_⟩ <;> first | (go_keep; done) | (go_simp; done) | (simp [*]; done) | (rw [World.cell?_setCell_other (by intro e; injection e; omega)]; assumption)))
    (first | (go_at_call 138; refine (HC.out _ (by first | exact HB0.out.drew | exact (HB0.out.alloc (by have := HS0.out; omega) _).drew | exact (HB0.out.drew.alloc (by have := HS0.out; simp; omega) _))).mono ?_; rintro e w1 ⟨k1, cp1, rfl, hcl, hb1⟩; have hcc := fun b o h => hb1.cell (p := ⟨b, o, none⟩) h; have hff := fun b o h => hb1.frozen (p := ⟨b, o, none⟩) h; have t1 : w1.cell? ⟨w.heap.size, 0, none⟩ = some (ptr P) := (hcc _ _ (by first | (simp; done) | (simp; omega))).trans (by go_simp); have t2 : w1.cell? ⟨w.heap.size + 1, 0, none⟩ = some (.pointer (some ⟨b, o, none⟩)) := (hcc _ _ (by first | (simp; done) | (simp; omega))).trans (by go_simp); have t3 : w1.cell? ⟨b, o + 4, none⟩ = some (ptr qv) := (hcc _ _ (by first | (simp; done) | (simp; omega))).trans (by go_simp); have t4 := hb1.size; simp at t4; have u1 : w.heap.size < w1.heap.size := (by omega); have u2 : w.heap.size + 1 < w1.heap.size := (by omega); have u3 : b < w1.heap.size := (by omega)))
   all_goals first
    | (obtain ⟨g1, g2, g3⟩ := late (HB0.out.trans ((undrew hb1).mono HB0.out.size)) hcl; have g4 : Hid (_ ∧ _) := ⟨row_alloc (blkm_at (undrew hb1) HG.out.1) (.cells #[.func (.func k1) #[] cp1] 245), row_alloc (blkm_at (undrew hb1) HG.out.2.1) (.cells #[.func (.func k1) #[] cp1] 245)⟩; clear hcc hff; have G1 : Hid (_ ∧ _ ∧ _) := ⟨g1, g2, g3⟩; clear g1 g2 g3; go_wp2_with fail; go_meet; exact ⟨_, _, rfl, G1.out.1, G1.out.2.1, G1.out.2.2, g4.out.1, g4.out.2⟩)
    | (obtain ⟨g1, g2, g3⟩ := early HB0.out (undrew hb1) hcl; have g4 : Hid (_ ∧ _) := ⟨early_old (undrew hb1) HG.out.1 (.func (.func k1) #[] cp1), early_old (undrew hb1) HG.out.2.1 (.func (.func k1) #[] cp1)⟩; clear hcc hff; have G1 : Hid (_ ∧ _ ∧ _) := ⟨g1, g2, g3⟩; clear g1 g2 g3; go_wp2_with fail; go_meet; exact ⟨_, _, rfl, G1.out.1, G1.out.2.1, G1.out.2.2, g4.out.1, g4.out.2⟩)
  case rest =>
   obtain ⟨b5, x1, rfl, HF⟩ := hcut
   obtain ⟨w9, hw9⟩ : ∃ w9, w9 = wc := ⟨_, rfl⟩
   rw [← hw9] at HF ⊢
   clear hw9
   have d1 : w9.cell? ⟨w.heap.size + 1, 0, none⟩ = some (.pointer (some ⟨b, o, none⟩)) := cell_at (i := 0) HF.out.2.2.2.2 rfl
   have d2 : w9.cell? ⟨b, o, none⟩ = some (.int .i64 7) := by rw [HF.out.2.2.1.cell (p := ⟨b, o, none⟩) hlt]; exact HC0.out
   clear p1 p2 p3
   go_wp2
   go_ret
   obtain ⟨f1, f2, f3, f4, f5⟩ := HF.out
   refine ⟨_, _, rfl, ?_, f3⟩
   rw [ClB]
   exact ⟨_, [], rfl, by rw [ClB], .inr (.inr (.inr (.inr (.inl ⟨rfl, w.heap.size, b5, x1, rfl, f4, f1, f2⟩))))⟩
set_option maxRecDepth 100000 in
set_option maxHeartbeats 4000000 in
theorem cm_do {a : Int} {nm : By} {ix v th el : Tr} (hv : CmE v) (hnv : IsNd v) : CmS (st 8 a nm ix v th el) := by
  rintro c a' nm' ix' v' th' el' e S w P b o vi vv vt ve h
  obtain ⟨rfl, rfl, rfl, rfl, rfl, rfl, rfl⟩ := st_inj e
  obtain ⟨qv, hqv⟩ := part_ptr hnv h.v
  injection hqv with hqv
  subst hqv
  have HC : Hid (∀ W, Below w.heap.size w W → Calls Tryz.prog 138 #[ptr P, ptr qv] W (CmP P v W)) := fun W hb => hv S W P _ (ex_below hb h.v)
  obtain ⟨cs, h1, h2, h3, -, h4, -⟩ := h.cells
  have c0 : w.cell? ⟨b, o, none⟩ = some (.int .i64 8) := cell_at h1 h2
  have c4 : w.cell? ⟨b, o + 4, none⟩ = some (ptr qv) := cell_at h1 h4
  have hlt : b < w.heap.size := (Array.getElem?_eq_some_iff.1 h1).1
  have hmf := mkf
  have HSc : Hid (w.heap[b]? = some (.cells cs 147) ∧ cs[o + 2]? = some (str nm)) := ⟨h1, h3⟩
  clear h h1 h2 h3 h4 hv hnv e
  go_enter Tryz.func86, Tryz.ntmps86
  go_upto_region 8 with fail
  obtain ⟨W0, hW0⟩ : ∃ W0, W0 = (w.alloc (.cells #[ptr P] 57)).alloc (.cells #[.pointer (some ⟨b, o, none⟩)] 186) := ⟨_, rfl⟩
  have hB0 : Below w.heap.size w W0 := by rw [hW0]; exact bel2 _ _ _
  have HB0 : Hid (Below w.heap.size w W0) := hB0
  have hS0 : W0.heap.size = w.heap.size + 2 := by rw [hW0]; simp
  have HS0 : Hid (W0.heap.size = w.heap.size + 2) := hS0
  have HG : Hid (W0.heap[w.heap.size]? = some (.cells #[ptr P] 57) ∧ W0.heap[w.heap.size + 1]? = some (.cells #[.pointer (some ⟨b, o, none⟩)] 186) ∧ W0.heap[b]? = some (.cells cs 147)) := by
    show _ ∧ _ ∧ _
    rw [hW0]; exact ⟨al1 _ _ _, al2 _ _ _, row_alloc (row_alloc HSc.out.1 _) _⟩
  have p1 : W0.cell? ⟨w.heap.size, 0, none⟩ = some (ptr P) := cell_at (i := 0) HG.out.1 rfl
  have p2 : W0.cell? ⟨w.heap.size + 1, 0, none⟩ = some (.pointer (some ⟨b, o, none⟩)) := cell_at (i := 0) HG.out.2.1 rfl
  have p3 : W0.cell? ⟨b, o + 4, none⟩ = some (ptr qv) := by rw [hB0.cell (p := ⟨b, o + 4, none⟩) hlt]; exact c4
  have HC0 : Hid (w.cell? ⟨b, o, none⟩ = some (.int .i64 8)) := c0
  have hz : w.heap.size + 1 < W0.heap.size := by omega
  have hz0 : w.heap.size < W0.heap.size := by omega
  have hq0 : b < W0.heap.size := by omega
  have m1 : w.heap.size ≠ W0.heap.size := by omega
  have m2 : w.heap.size + 1 ≠ W0.heap.size := by omega
  have m3 : b ≠ W0.heap.size := by omega
  rw [← hW0]
  clear hW0 c0 c4 hB0 hS0
  go_cut [5] (fun v5 wx => ∃ b5 x1, v5 = ptr b5 ∧ Hid (wx.heap[b5]? = some (.cells #[x1] 245) ∧ ClE wx P v x1 ∧ Below w.heap.size w wx ∧ wx.heap[w.heap.size]? = some (.cells #[ptr P] 57) ∧ wx.heap[w.heap.size + 1]? = some (.cells #[.pointer (some ⟨b, o, none⟩)] 186)))
  case first =>
   go_region_held3 (fun w' => w'.cell? ⟨w.heap.size, 0, none⟩ = some (ptr P) ∧ w'.cell? ⟨w.heap.size + 1, 0, none⟩ = some (.pointer (some ⟨b, o, none⟩)) ∧ w'.cell? ⟨b, o + 4, none⟩ = some (ptr qv))
    (first | (go_keep; done) | ((try dsimp only); refine ⟨?_, ?_, ?_⟩ <;> first | (go_keep; done) | (go_simp; done) | (simp [*]; done) | (rw [World.cell?_setCell_other (by intro e; injection e; omega)]; assumption)))
    (first | (go_at_call 138; refine (HC.out _ (by first | exact HB0.out.drew | exact (HB0.out.alloc (by have := HS0.out; omega) _).drew | exact (HB0.out.drew.alloc (by have := HS0.out; simp; omega) _))).mono ?_; rintro e w1 ⟨k1, cp1, rfl, hcl, hb1⟩; have hcc := fun b o h => hb1.cell (p := ⟨b, o, none⟩) h; have hff := fun b o h => hb1.frozen (p := ⟨b, o, none⟩) h; have t1 : w1.cell? ⟨w.heap.size, 0, none⟩ = some (ptr P) := (hcc _ _ (by first | (simp; done) | (simp; omega))).trans (by go_simp); have t2 : w1.cell? ⟨w.heap.size + 1, 0, none⟩ = some (.pointer (some ⟨b, o, none⟩)) := (hcc _ _ (by first | (simp; done) | (simp; omega))).trans (by go_simp); have t3 : w1.cell? ⟨b, o + 4, none⟩ = some (ptr qv) := (hcc _ _ (by first | (simp; done) | (simp; omega))).trans (by go_simp); have t4 := hb1.size; simp at t4; have u1 : w.heap.size < w1.heap.size := (by omega); have u2 : w.heap.size + 1 < w1.heap.size := (by omega); have u3 : b < w1.heap.size := (by omega)))
   all_goals first
    | (obtain ⟨g1, g2, g3⟩ := late (HB0.out.trans ((undrew hb1).mono HB0.out.size)) hcl; have g4 : Hid (_ ∧ _) := ⟨row_alloc (blkm_at (undrew hb1) HG.out.1) (.cells #[.func (.func k1) #[] cp1] 245), row_alloc (blkm_at (undrew hb1) HG.out.2.1) (.cells #[.func (.func k1) #[] cp1] 245)⟩; clear hcc hff; have G1 : Hid (_ ∧ _ ∧ _) := ⟨g1, g2, g3⟩; clear g1 g2 g3; go_wp2_with fail; go_meet; exact ⟨_, _, rfl, G1.out.1, G1.out.2.1, G1.out.2.2, g4.out.1, g4.out.2⟩)
    | (obtain ⟨g1, g2, g3⟩ := early HB0.out (undrew hb1) hcl; have g4 : Hid (_ ∧ _) := ⟨early_old (undrew hb1) HG.out.1 (.func (.func k1) #[] cp1), early_old (undrew hb1) HG.out.2.1 (.func (.func k1) #[] cp1)⟩; clear hcc hff; have G1 : Hid (_ ∧ _ ∧ _) := ⟨g1, g2, g3⟩; clear g1 g2 g3; go_wp2_with fail; go_meet; exact ⟨_, _, rfl, G1.out.1, G1.out.2.1, G1.out.2.2, g4.out.1, g4.out.2⟩)
  case rest =>
   obtain ⟨b5, x1, rfl, HF⟩ := hcut
   obtain ⟨w9, hw9⟩ : ∃ w9, w9 = wc := ⟨_, rfl⟩
   rw [← hw9] at HF ⊢
   clear hw9
   have d1 : w9.cell? ⟨w.heap.size + 1, 0, none⟩ = some (.pointer (some ⟨b, o, none⟩)) := cell_at (i := 0) HF.out.2.2.2.2 rfl
   have d2 : w9.cell? ⟨b, o, none⟩ = some (.int .i64 8) := by rw [HF.out.2.2.1.cell (p := ⟨b, o, none⟩) hlt]; exact HC0.out
   clear p1 p2 p3
   go_wp2
   go_ret
   obtain ⟨f1, f2, f3, f4, f5⟩ := HF.out
   refine ⟨_, _, rfl, ?_, f3⟩
   rw [ClB]
   exact ⟨_, [], rfl, by rw [ClB], .inr (.inr (.inr (.inr (.inr (.inl ⟨rfl, b5, x1, rfl, f1, f2⟩)))))⟩
set_option maxRecDepth 100000 in
set_option maxHeartbeats 4000000 in
theorem cm_var {a : Int} {nm : By} {ix v th el : Tr} (hv : CmE v) (hnv : IsNd v) : CmS (st 1 a nm ix v th el) := by
  rintro c a' nm' ix' v' th' el' e S w P b o vi vv vt ve h
  obtain ⟨rfl, rfl, rfl, rfl, rfl, rfl, rfl⟩ := st_inj e
  obtain ⟨qv, hqv⟩ := part_ptr hnv h.v
  injection hqv with hqv
  subst hqv
  have HC : Hid (∀ W, Below w.heap.size w W → Calls Tryz.prog 138 #[ptr P, ptr qv] W (CmP P v W)) := fun W hb => hv S W P _ (ex_below hb h.v)
  obtain ⟨cs, h1, h2, h3, -, h4, -⟩ := h.cells
  have c0 : w.cell? ⟨b, o, none⟩ = some (.int .i64 1) := cell_at h1 h2
  have c4 : w.cell? ⟨b, o + 4, none⟩ = some (ptr qv) := cell_at h1 h4
  have hlt : b < w.heap.size := (Array.getElem?_eq_some_iff.1 h1).1
  have hmf := mkf
  have HSc : Hid (w.heap[b]? = some (.cells cs 147) ∧ cs[o + 2]? = some (str nm)) := ⟨h1, h3⟩
  clear h h1 h2 h3 h4 hv hnv e
  go_enter Tryz.func86, Tryz.ntmps86
  go_upto_region 8 with fail
  obtain ⟨W0, hW0⟩ : ∃ W0, W0 = (w.alloc (.cells #[ptr P] 57)).alloc (.cells #[.pointer (some ⟨b, o, none⟩)] 186) := ⟨_, rfl⟩
  have hB0 : Below w.heap.size w W0 := by rw [hW0]; exact bel2 _ _ _
  have HB0 : Hid (Below w.heap.size w W0) := hB0
  have hS0 : W0.heap.size = w.heap.size + 2 := by rw [hW0]; simp
  have HS0 : Hid (W0.heap.size = w.heap.size + 2) := hS0
  have HG : Hid (W0.heap[w.heap.size]? = some (.cells #[ptr P] 57) ∧ W0.heap[w.heap.size + 1]? = some (.cells #[.pointer (some ⟨b, o, none⟩)] 186) ∧ W0.heap[b]? = some (.cells cs 147)) := by
    show _ ∧ _ ∧ _
    rw [hW0]; exact ⟨al1 _ _ _, al2 _ _ _, row_alloc (row_alloc HSc.out.1 _) _⟩
  have p1 : W0.cell? ⟨w.heap.size, 0, none⟩ = some (ptr P) := cell_at (i := 0) HG.out.1 rfl
  have p2 : W0.cell? ⟨w.heap.size + 1, 0, none⟩ = some (.pointer (some ⟨b, o, none⟩)) := cell_at (i := 0) HG.out.2.1 rfl
  have p3 : W0.cell? ⟨b, o + 4, none⟩ = some (ptr qv) := by rw [hB0.cell (p := ⟨b, o + 4, none⟩) hlt]; exact c4
  have HC0 : Hid (w.cell? ⟨b, o, none⟩ = some (.int .i64 1)) := c0
  have hz : w.heap.size + 1 < W0.heap.size := by omega
  have hz0 : w.heap.size < W0.heap.size := by omega
  have hq0 : b < W0.heap.size := by omega
  have m1 : w.heap.size ≠ W0.heap.size := by omega
  have m2 : w.heap.size + 1 ≠ W0.heap.size := by omega
  have m3 : b ≠ W0.heap.size := by omega
  rw [← hW0]
  clear hW0 c0 c4 hB0 hS0
  go_cut [5] (fun v5 wx => ∃ b5 x1, v5 = ptr b5 ∧ Hid (wx.heap[b5]? = some (.cells #[x1] 245) ∧ ClE wx P v x1 ∧ Below w.heap.size w wx ∧ wx.heap[w.heap.size]? = some (.cells #[ptr P] 57) ∧ wx.heap[w.heap.size + 1]? = some (.cells #[.pointer (some ⟨b, o, none⟩)] 186)))
  case first =>
   go_region_held3 (fun w' => w'.cell? ⟨w.heap.size, 0, none⟩ = some (ptr P) ∧ w'.cell? ⟨w.heap.size + 1, 0, none⟩ = some (.pointer (some ⟨b, o, none⟩)) ∧ w'.cell? ⟨b, o + 4, none⟩ = some (ptr qv))
    (first | (go_keep; done) | ((try dsimp only); refine ⟨?_, ?_, ?_⟩ <;> first | (go_keep; done) | (go_simp; done) | (simp [*]; done) | (rw [World.cell?_setCell_other (by intro e; injection e; omega)]; assumption)))
    (first | (go_at_call 138; refine (HC.out _ (by first | exact HB0.out.drew | exact (HB0.out.alloc (by have := HS0.out; omega) _).drew | exact (HB0.out.drew.alloc (by have := HS0.out; simp; omega) _))).mono ?_; rintro e w1 ⟨k1, cp1, rfl, hcl, hb1⟩; have hcc := fun b o h => hb1.cell (p := ⟨b, o, none⟩) h; have hff := fun b o h => hb1.frozen (p := ⟨b, o, none⟩) h; have t1 : w1.cell? ⟨w.heap.size, 0, none⟩ = some (ptr P) := (hcc _ _ (by first | (simp; done) | (simp; omega))).trans (by go_simp); have t2 : w1.cell? ⟨w.heap.size + 1, 0, none⟩ = some (.pointer (some ⟨b, o, none⟩)) := (hcc _ _ (by first | (simp; done) | (simp; omega))).trans (by go_simp); have t3 : w1.cell? ⟨b, o + 4, none⟩ = some (ptr qv) := (hcc _ _ (by first | (simp; done) | (simp; omega))).trans (by go_simp); have t4 := hb1.size; simp at t4; have u1 : w.heap.size < w1.heap.size := (by omega); have u2 : w.heap.size + 1 < w1.heap.size := (by omega); have u3 : b < w1.heap.size := (by omega)))
   all_goals first
    | (obtain ⟨g1, g2, g3⟩ := late (HB0.out.trans ((undrew hb1).mono HB0.out.size)) hcl; have g4 : Hid (_ ∧ _) := ⟨row_alloc (blkm_at (undrew hb1) HG.out.1) (.cells #[.func (.func k1) #[] cp1] 245), row_alloc (blkm_at (undrew hb1) HG.out.2.1) (.cells #[.func (.func k1) #[] cp1] 245)⟩; clear hcc hff; have G1 : Hid (_ ∧ _ ∧ _) := ⟨g1, g2, g3⟩; clear g1 g2 g3; go_wp2_with fail; go_meet; exact ⟨_, _, rfl, G1.out.1, G1.out.2.1, G1.out.2.2, g4.out.1, g4.out.2⟩)
    | (obtain ⟨g1, g2, g3⟩ := early HB0.out (undrew hb1) hcl; have g4 : Hid (_ ∧ _) := ⟨early_old (undrew hb1) HG.out.1 (.func (.func k1) #[] cp1), early_old (undrew hb1) HG.out.2.1 (.func (.func k1) #[] cp1)⟩; clear hcc hff; have G1 : Hid (_ ∧ _ ∧ _) := ⟨g1, g2, g3⟩; clear g1 g2 g3; go_wp2_with fail; go_meet; exact ⟨_, _, rfl, G1.out.1, G1.out.2.1, G1.out.2.2, g4.out.1, g4.out.2⟩)
  case rest =>
   obtain ⟨b5, x1, rfl, HF⟩ := hcut
   obtain ⟨w9, hw9⟩ : ∃ w9, w9 = wc := ⟨_, rfl⟩
   rw [← hw9] at HF ⊢
   clear hw9
   have d1 : w9.cell? ⟨w.heap.size + 1, 0, none⟩ = some (.pointer (some ⟨b, o, none⟩)) := cell_at (i := 0) HF.out.2.2.2.2 rfl
   have d2 : w9.cell? ⟨b, o, none⟩ = some (.int .i64 1) := by rw [HF.out.2.2.1.cell (p := ⟨b, o, none⟩) hlt]; exact HC0.out
   clear p1 p2 p3
   go_wp2
   go_ret
   obtain ⟨f1, f2, f3, f4, f5⟩ := HF.out
   refine ⟨_, _, rfl, ?_, f3⟩
   rw [ClB]
   exact ⟨_, [], rfl, by rw [ClB], .inr (.inr (.inr (.inr (.inr (.inr ⟨.inl rfl, b5, w.heap.size + 1, x1, rfl, f1, ⟨b, o, f5, cs, blkm_at f3 HSc.out.1, HSc.out.2⟩, f2⟩)))))⟩
set_option maxRecDepth 100000 in
set_option maxHeartbeats 4000000 in
theorem cm_set {a : Int} {nm : By} {ix v th el : Tr} (hv : CmE v) (hnv : IsNd v) : CmS (st 2 a nm ix v th el) := by
  rintro c a' nm' ix' v' th' el' e S w P b o vi vv vt ve h
  obtain ⟨rfl, rfl, rfl, rfl, rfl, rfl, rfl⟩ := st_inj e
  obtain ⟨qv, hqv⟩ := part_ptr hnv h.v
  injection hqv with hqv
  subst hqv
  have HC : Hid (∀ W, Below w.heap.size w W → Calls Tryz.prog 138 #[ptr P, ptr qv] W (CmP P v W)) := fun W hb => hv S W P _ (ex_below hb h.v)
  obtain ⟨cs, h1, h2, h3, -, h4, -⟩ := h.cells
  have c0 : w.cell? ⟨b, o, none⟩ = some (.int .i64 2) := cell_at h1 h2
  have c4 : w.cell? ⟨b, o + 4, none⟩ = some (ptr qv) := cell_at h1 h4
  have hlt : b < w.heap.size := (Array.getElem?_eq_some_iff.1 h1).1
  have hmf := mkf
  have HSc : Hid (w.heap[b]? = some (.cells cs 147) ∧ cs[o + 2]? = some (str nm)) := ⟨h1, h3⟩
  clear h h1 h2 h3 h4 hv hnv e
  go_enter Tryz.func86, Tryz.ntmps86
  go_upto_region 8 with fail
  obtain ⟨W0, hW0⟩ : ∃ W0, W0 = (w.alloc (.cells #[ptr P] 57)).alloc (.cells #[.pointer (some ⟨b, o, none⟩)] 186) := ⟨_, rfl⟩
  have hB0 : Below w.heap.size w W0 := by rw [hW0]; exact bel2 _ _ _
  have HB0 : Hid (Below w.heap.size w W0) := hB0
  have hS0 : W0.heap.size = w.heap.size + 2 := by rw [hW0]; simp
  have HS0 : Hid (W0.heap.size = w.heap.size + 2) := hS0
  have HG : Hid (W0.heap[w.heap.size]? = some (.cells #[ptr P] 57) ∧ W0.heap[w.heap.size + 1]? = some (.cells #[.pointer (some ⟨b, o, none⟩)] 186) ∧ W0.heap[b]? = some (.cells cs 147)) := by
    show _ ∧ _ ∧ _
    rw [hW0]; exact ⟨al1 _ _ _, al2 _ _ _, row_alloc (row_alloc HSc.out.1 _) _⟩
  have p1 : W0.cell? ⟨w.heap.size, 0, none⟩ = some (ptr P) := cell_at (i := 0) HG.out.1 rfl
  have p2 : W0.cell? ⟨w.heap.size + 1, 0, none⟩ = some (.pointer (some ⟨b, o, none⟩)) := cell_at (i := 0) HG.out.2.1 rfl
  have p3 : W0.cell? ⟨b, o + 4, none⟩ = some (ptr qv) := by rw [hB0.cell (p := ⟨b, o + 4, none⟩) hlt]; exact c4
  have HC0 : Hid (w.cell? ⟨b, o, none⟩ = some (.int .i64 2)) := c0
  have hz : w.heap.size + 1 < W0.heap.size := by omega
  have hz0 : w.heap.size < W0.heap.size := by omega
  have hq0 : b < W0.heap.size := by omega
  have m1 : w.heap.size ≠ W0.heap.size := by omega
  have m2 : w.heap.size + 1 ≠ W0.heap.size := by omega
  have m3 : b ≠ W0.heap.size := by omega
  rw [← hW0]
  clear hW0 c0 c4 hB0 hS0
  go_cut [5] (fun v5 wx => ∃ b5 x1, v5 = ptr b5 ∧ Hid (wx.heap[b5]? = some (.cells #[x1] 245) ∧ ClE wx P v x1 ∧ Below w.heap.size w wx ∧ wx.heap[w.heap.size]? = some (.cells #[ptr P] 57) ∧ wx.heap[w.heap.size + 1]? = some (.cells #[.pointer (some ⟨b, o, none⟩)] 186)))
  case first =>
   go_region_held3 (fun w' => w'.cell? ⟨w.heap.size, 0, none⟩ = some (ptr P) ∧ w'.cell? ⟨w.heap.size + 1, 0, none⟩ = some (.pointer (some ⟨b, o, none⟩)) ∧ w'.cell? ⟨b, o + 4, none⟩ = some (ptr qv))
    (first | (go_keep; done) | ((try dsimp only); refine ⟨?_, ?_, ?_⟩ <;> first | (go_keep; done) | (go_simp; done) | (simp [*]; done) | (rw [World.cell?_setCell_other (by intro e; injection e; omega)]; assumption)))
    (first | (go_at_call 138; refine (HC.out _ (by first | exact HB0.out.drew | exact (HB0.out.alloc (by have := HS0.out; omega) _).drew | exact (HB0.out.drew.alloc (by have := HS0.out; simp; omega) _))).mono ?_; rintro e w1 ⟨k1, cp1, rfl, hcl, hb1⟩; have hcc := fun b o h => hb1.cell (p := ⟨b, o, none⟩) h; have hff := fun b o h => hb1.frozen (p := ⟨b, o, none⟩) h; have t1 : w1.cell? ⟨w.heap.size, 0, none⟩ = some (ptr P) := (hcc _ _ (by first | (simp; done) | (simp; omega))).trans (by go_simp); have t2 : w1.cell? ⟨w.heap.size + 1, 0, none⟩ = some (.pointer (some ⟨b, o, none⟩)) := (hcc _ _ (by first | (simp; done) | (simp; omega))).trans (by go_simp); have t3 : w1.cell? ⟨b, o + 4, none⟩ = some (ptr qv) := (hcc _ _ (by first | (simp; done) | (simp; omega))).trans (by go_simp); have t4 := hb1.size; simp at t4; have u1 : w.heap.size < w1.heap.size := (by omega); have u2 : w.heap.size + 1 < w1.heap.size := (by omega); have u3 : b < w1.heap.size := (by omega)))
   all_goals first
    | (obtain ⟨g1, g2, g3⟩ := late (HB0.out.trans ((undrew hb1).mono HB0.out.size)) hcl; have g4 : Hid (_ ∧ _) := ⟨row_alloc (blkm_at (undrew hb1) HG.out.1) (.cells #[.func (.func k1) #[] cp1] 245), row_alloc (blkm_at (undrew hb1) HG.out.2.1) (.cells #[.func (.func k1) #[] cp1] 245)⟩; clear hcc hff; have G1 : Hid (_ ∧ _ ∧ _) := ⟨g1, g2, g3⟩; clear g1 g2 g3; go_wp2_with fail; go_meet; exact ⟨_, _, rfl, G1.out.1, G1.out.2.1, G1.out.2.2, g4.out.1, g4.out.2⟩)
    | (obtain ⟨g1, g2, g3⟩ := early HB0.out (undrew hb1) hcl; have g4 : Hid (_ ∧ _) := ⟨early_old (undrew hb1) HG.out.1 (.func (.func k1) #[] cp1), early_old (undrew hb1) HG.out.2.1 (.func (.func k1) #[] cp1)⟩; clear hcc hff; have G1 : Hid (_ ∧ _ ∧ _) := ⟨g1, g2, g3⟩; clear g1 g2 g3; go_wp2_with fail; go_meet; exact ⟨_, _, rfl, G1.out.1, G1.out.2.1, G1.out.2.2, g4.out.1, g4.out.2⟩)
  case rest =>
   obtain ⟨b5, x1, rfl, HF⟩ := hcut
   obtain ⟨w9, hw9⟩ : ∃ w9, w9 = wc := ⟨_, rfl⟩
   rw [← hw9] at HF ⊢
   clear hw9
   have d1 : w9.cell? ⟨w.heap.size + 1, 0, none⟩ = some (.pointer (some ⟨b, o, none⟩)) := cell_at (i := 0) HF.out.2.2.2.2 rfl
   have d2 : w9.cell? ⟨b, o, none⟩ = some (.int .i64 2) := by rw [HF.out.2.2.1.cell (p := ⟨b, o, none⟩) hlt]; exact HC0.out
   clear p1 p2 p3
   go_wp2
   go_ret
   obtain ⟨f1, f2, f3, f4, f5⟩ := HF.out
   refine ⟨_, _, rfl, ?_, f3⟩
   rw [ClB]
   exact ⟨_, [], rfl, by rw [ClB], .inr (.inr (.inr (.inr (.inr (.inr ⟨.inr rfl, b5, w.heap.size + 1, x1, rfl, f1, ⟨b, o, f5, cs, blkm_at f3 HSc.out.1, HSc.out.2⟩, f2⟩)))))⟩
end Go.Proofs.YtnfhpdbbfejioaaGreatDoor
