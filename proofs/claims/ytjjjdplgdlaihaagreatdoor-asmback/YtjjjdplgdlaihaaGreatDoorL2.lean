/- The cells of the two tables, out of what they read as: Tabs. -/
import Derived.Test.YtjjjdplgdlaihaaGreatDoorL1
namespace Go.Proofs.YtjjjdplgdlaihaaGreatDoor
open Go Go.RowKit

section
variable {H : Type} {enc : TypeId × Value → H} {w : World} {base : Nat} {sp : Nat → Bool} {held : Bool}

theorem int_sub {fuel : Nat} {l : List Value} {t : TypeId} {k k' : IntKind} {z : Int} {a : Nat} {p : List MemPlace} (ht : Tryz.prog.underlying t = some (.int k)) (hc : Tryz.prog.cellsOf t = 1)
    (h : DataW.trod enc Tryz.prog w base sp held fuel t ((l.drop a).take (Tryz.prog.cellsOf t)) = some (.lit (.int k' z), p)) : l[a]? = some (.int k' z) := by
  have := int_is ht h
  rw [hc] at this
  exact sub_get this 0 _ rfl
theorem bool_sub {fuel : Nat} {l : List Value} {t : TypeId} {b : Bool} {a : Nat} {p : List MemPlace} (ht : Tryz.prog.underlying t = some .bool) (hc : Tryz.prog.cellsOf t = 1)
    (h : DataW.trod enc Tryz.prog w base sp held fuel t ((l.drop a).take (Tryz.prog.cellsOf t)) = some (.lit (.bool b), p)) : l[a]? = some (.bool b) := by
  have := bool_is ht h
  rw [hc] at this
  exact sub_get this 0 _ rfl

theorem form_cells {fuel : Nat} {cs : List Value} {p : List MemPlace} (h : DataW.trod enc Tryz.prog w base sp held fuel 136 cs = some (.agg (formsL.map formD), p)) (o : Nat) (ho : o < 32) :
    cs[o * 4]? = some (.int .u8 (T.kd o : Int)) ∧ cs[o * 4 + 1]? = some (.int .u8 (T.lo o)) ∧ cs[o * 4 + 2]? = some (.int .u8 (T.md o)) ∧ cs[o * 4 + 3]? = some (.int .u8 (T.hg o)) := by
  obtain ⟨m, d, p', hd, h2⟩ := arr_at Tryz.underlying136 h o ho
  have hlt : o < formsL.length := ho
  rw [List.getElem?_map, List.getElem?_eq_getElem hlt] at hd
  simp only [Option.map_some, Option.some.injEq] at hd
  have hr : formsL[o] = formsL.getD o (0, 0, 0, 0) := by rw [List.getD_eq_getElem?_getD, List.getElem?_eq_getElem hlt]; rfl
  rw [hr] at hd
  rw [cells53] at h2
  subst hd
  obtain ⟨_, d0, _, e0, h0⟩ := str_at Tryz.underlying135 h2 0 _ rfl
  obtain ⟨_, d1, _, e1, h1⟩ := str_at Tryz.underlying135 h2 1 _ rfl
  obtain ⟨_, d2, _, e2, h2'⟩ := str_at Tryz.underlying135 h2 2 _ rfl
  obtain ⟨_, d3, _, e3, h3⟩ := str_at Tryz.underlying135 h2 3 _ rfl
  cases e0; cases e1; cases e2; cases e3
  exact ⟨sub_get rfl 0 _ (int_sub Tryz.underlying5 cells5 h0), sub_get rfl 1 _ (int_sub Tryz.underlying5 cells5 h1), sub_get rfl 2 _ (int_sub Tryz.underlying5 cells5 h2'), sub_get rfl 3 _ (int_sub Tryz.underlying5 cells5 h3)⟩

theorem arr_atc {fuel n c : Nat} {t e : TypeId} {cs : List Value} {ds : List (DataW H)} {p : List MemPlace} (ht : Tryz.prog.underlying t = some (.array n e)) (hce : Tryz.prog.cellsOf e = c) (h : DataW.trod enc Tryz.prog w base sp held fuel t cs = some (.agg ds, p)) (i : Nat) (hi : i < n) :
    ∃ fuel' d p', ds[i]? = some d ∧ DataW.trod enc Tryz.prog w base sp held fuel' e ((cs.drop (i * c)).take c) = some (d, p') := by
  subst hce
  exact arr_at ht h i hi

theorem move_cells {fuel : Nat} {cs : List Value} {p : List MemPlace} {a : Nat} {f t c : Int} (h : DataW.trod enc Tryz.prog w base sp held fuel 129 ((cs.drop a).take 3) = some (moveD f t c, p)) :
    cs[a]? = some (.int .u8 f) ∧ cs[a + 1]? = some (.int .u8 t) ∧ cs[a + 2]? = some (.int .u8 c) := by
  obtain ⟨_, d0, _, e0, h0⟩ := str_at Tryz.underlying129 h 0 _ rfl
  obtain ⟨_, d1, _, e1, h1⟩ := str_at Tryz.underlying129 h 1 _ rfl
  obtain ⟨_, d2, _, e2, h2⟩ := str_at Tryz.underlying129 h 2 _ rfl
  cases e0; cases e1; cases e2
  exact ⟨sub_get rfl 0 _ (int_sub Tryz.underlying5 cells5 h0), sub_get rfl 1 _ (int_sub Tryz.underlying5 cells5 h1), sub_get rfl 2 _ (int_sub Tryz.underlying5 cells5 h2)⟩

theorem shape_one {fuel : Nat} {l : List Value} {p : List MemPlace} {s : Sh} (h : DataW.trod enc Tryz.prog w base sp held fuel 132 l = some (shapeD s, p)) : ∀ (j : Nat) (v : Value), s.cells[j]? = some v → l[j]? = some v := by
  obtain ⟨_, d0, _, e0, h0⟩ := str_at Tryz.underlying132 h 0 _ rfl
  obtain ⟨_, d1, _, e1, h1⟩ := str_at Tryz.underlying132 h 1 _ rfl
  obtain ⟨_, d2, _, e2, h2⟩ := str_at Tryz.underlying132 h 2 _ rfl
  obtain ⟨_, d3, _, e3, h3⟩ := str_at Tryz.underlying132 h 3 _ rfl
  obtain ⟨_, d4, _, e4, h4⟩ := str_at Tryz.underlying132 h 4 _ rfl
  obtain ⟨_, d5, _, e5, h5⟩ := str_at Tryz.underlying132 h 5 _ rfl
  obtain ⟨_, d6, _, e6, h6⟩ := str_at Tryz.underlying132 h 6 _ rfl
  obtain ⟨_, d7, _, e7, h7⟩ := str_at Tryz.underlying132 h 7 _ rfl
  cases e0; cases e1; cases e2; cases e3; cases e4; cases e5; cases e6; cases e7
  have c59 : (l.drop 7).take (Tryz.prog.cellsOf 130) = (l.drop 7).take 12 := by rw [cells59]
  replace h7 := c59 ▸ h7
  obtain ⟨_, n0, _, x0, y0⟩ := arr_atc Tryz.underlying130 cells58 h7 0 (by omega)
  cases x0
  obtain ⟨a0, b0, c0⟩ := move_cells y0
  obtain ⟨_, n1, _, x1, y1⟩ := arr_atc Tryz.underlying130 cells58 h7 1 (by omega)
  cases x1
  obtain ⟨a1, b1, c1⟩ := move_cells y1
  obtain ⟨_, n2, _, x2, y2⟩ := arr_atc Tryz.underlying130 cells58 h7 2 (by omega)
  cases x2
  obtain ⟨a2, b2, c2⟩ := move_cells y2
  obtain ⟨_, n3, _, x3, y3⟩ := arr_atc Tryz.underlying130 cells58 h7 3 (by omega)
  cases x3
  obtain ⟨a3, b3, c3⟩ := move_cells y3
  have z0 : l[0]? = some (.bool s.rd) := bool_sub Tryz.underlying4 cells4 h0
  have z1 : l[1]? = some (.bool s.ra) := bool_sub Tryz.underlying4 cells4 h1
  have z2 : l[2]? = some (.bool s.rb) := bool_sub Tryz.underlying4 cells4 h2
  have z3 : l[3]? = some (.bool s.sg) := bool_sub Tryz.underlying4 cells4 h3
  have z4 : l[4]? = some (.int .u8 s.wd) := int_sub Tryz.underlying5 cells5 h4
  have z5 : l[5]? = some (.int .u8 s.zs) := int_sub Tryz.underlying5 cells5 h5
  have z6 : l[6]? = some (.int .u32 s.fx) := int_sub Tryz.underlying43 cells24 h6
  have z7 : l[7]? = some (.int .u8 s.f0) := sub_get rfl 0 _ a0
  have z8 : l[8]? = some (.int .u8 s.t0) := sub_get rfl 1 _ b0
  have z9 : l[9]? = some (.int .u8 s.c0) := sub_get rfl 2 _ c0
  have z10 : l[10]? = some (.int .u8 s.f1) := sub_get rfl 3 _ a1
  have z11 : l[11]? = some (.int .u8 s.t1) := sub_get rfl 4 _ b1
  have z12 : l[12]? = some (.int .u8 s.c1) := sub_get rfl 5 _ c1
  have z13 : l[13]? = some (.int .u8 s.f2) := sub_get rfl 6 _ a2
  have z14 : l[14]? = some (.int .u8 s.t2) := sub_get rfl 7 _ b2
  have z15 : l[15]? = some (.int .u8 s.c2) := sub_get rfl 8 _ c2
  have z16 : l[16]? = some (.int .u8 s.f3) := sub_get rfl 9 _ a3
  have z17 : l[17]? = some (.int .u8 s.t3) := sub_get rfl 10 _ b3
  have z18 : l[18]? = some (.int .u8 s.c3) := sub_get rfl 11 _ c3
  intro j v hv
  have hj : j < 19 := (List.getElem?_eq_some_iff.1 hv).1
  have hjj : j = 0 ∨ j = 1 ∨ j = 2 ∨ j = 3 ∨ j = 4 ∨ j = 5 ∨ j = 6 ∨ j = 7 ∨ j = 8 ∨ j = 9 ∨ j = 10 ∨ j = 11 ∨ j = 12 ∨ j = 13 ∨ j = 14 ∨ j = 15 ∨ j = 16 ∨ j = 17 ∨ j = 18 := by omega
  rcases hjj with rfl | rfl | rfl | rfl | rfl | rfl | rfl | rfl | rfl | rfl | rfl | rfl | rfl | rfl | rfl | rfl | rfl | rfl | rfl
  · rw [z0]; exact hv
  · rw [z1]; exact hv
  · rw [z2]; exact hv
  · rw [z3]; exact hv
  · rw [z4]; exact hv
  · rw [z5]; exact hv
  · rw [z6]; exact hv
  · rw [z7]; exact hv
  · rw [z8]; exact hv
  · rw [z9]; exact hv
  · rw [z10]; exact hv
  · rw [z11]; exact hv
  · rw [z12]; exact hv
  · rw [z13]; exact hv
  · rw [z14]; exact hv
  · rw [z15]; exact hv
  · rw [z16]; exact hv
  · rw [z17]; exact hv
  · rw [z18]; exact hv

theorem shape_cells {fuel : Nat} {cs : List Value} {p : List MemPlace} (h : DataW.trod enc Tryz.prog w base sp held fuel 133 cs = some (.agg (shapesL.map shapeD), p)) (k : Nat) (hk : k < 8) :
    ∀ (j : Nat) (v : Value), (T.cs k)[j]? = some v → cs[k * 19 + j]? = some v := by
  obtain ⟨m, d, p', hd, h2⟩ := arr_at Tryz.underlying133 h k hk
  have hlt : k < shapesL.length := hk
  rw [List.getElem?_map, List.getElem?_eq_getElem hlt] at hd
  simp only [Option.map_some, Option.some.injEq] at hd
  have hr : shapesL[k] = shapesL.getD k sh0 := by rw [List.getD_eq_getElem?_getD, List.getElem?_eq_getElem hlt]; rfl
  rw [hr] at hd
  rw [cells61] at h2
  subst hd
  intro j v hv
  exact sub_get rfl j v (shape_one h2 j v hv)
end

theorem gForms : Tryz.prog.globalNamed "bloomery/word.forms" = some 3 := by kernel_rfl
theorem gShapes : Tryz.prog.globalNamed "bloomery/word.shapes" = some 2 := by kernel_rfl
theorem tForms : (Tryz.prog.globals[3]?).map (·.type) = some 136 := by kernel_rfl
theorem tShapes : (Tryz.prog.globals[2]?).map (·.type) = some 133 := by kernel_rfl

theorem tabs_of_laid {W : World} (h : laidMet Tryz.prog [("bloomery/word.forms", Rows.laid_bloomery_word_forms), ("bloomery/word.shapes", Rows.laid_bloomery_word_shapes)] W) : Tabs T W := by
  obtain ⟨ps, ⟨g0, t0, cs0, f0, p0, q0, hg0, ht0, hv0, hd0, ⟨g1, t1, cs1, f1, p1, q1, hg1, ht1, hv1, hd1, _, _⟩, _⟩, _, _⟩ := h
  obtain rfl := Option.some.inj (gForms.symm.trans hg0)
  obtain rfl := Option.some.inj (gShapes.symm.trans hg1)
  obtain rfl := Option.some.inj (tForms.symm.trans ht0)
  obtain rfl := Option.some.inj (tShapes.symm.trans ht1)
  rw [formsD] at hd0
  rw [shapesD] at hd1
  have c0 : ∀ i, W.cell? ⟨3, i, none⟩ = cs0.toList[i]? := fun i => by rw [World.var?_cell hg0 hv0 i]; simp
  have c1 : ∀ i, W.cell? ⟨2, i, none⟩ = cs1.toList[i]? := fun i => by rw [World.var?_cell hg1 hv1 i]; simp
  intro o h1 h2
  obtain ⟨a0, a1, a2, a3⟩ := form_cells hd0 o (by omega)
  have hk := T_ok.k8 o h1 h2
  have hr : W.rangeAt 2 (T.kd o * 19) (T.cs (T.kd o)) := fun j v hv => by rw [c1]; exact shape_cells hd1 _ hk j v hv
  have b0 : W.cell? ⟨3, o * 4, none⟩ = some (.int .u8 (T.kd o : Int)) := by rw [c0]; exact a0
  have b1 : W.cell? ⟨2, T.kd o * 19 + 0, none⟩ = some (.bool (T.sh (T.kd o)).rd) := hr 0 _ rfl
  exact ⟨World.block_lt_of_cell? W _ b0, World.block_lt_of_cell? W _ b1, b0, by rw [c0]; exact a1, by rw [c0]; exact a2, by rw [c0]; exact a3, hr⟩
end Go.Proofs.YtjjjdplgdlaihaaGreatDoor
