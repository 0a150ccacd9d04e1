/- The two tables of package word. The two tables of package word as the program lays them, and that whatever memory reads so holds just these cells. From what the two tables read as to the cells that they hold. The cells of the two tables, out of what they read as: Tabs. Package word's Right, over the program's own tables. -/
import Derived.Test.YtjjjdplgdlaihaaGreatDoorA4
import Derived.ProofKit
import Derived.LaidMore
import Derived.OpenShut
import Derived.Lib.LaidTab
namespace Go.Proofs.YtjjjdplgdlaihaaGreatDoor
open Go Go.RowKit

/-- The two tables: of op number o its kind and bits; of each kind its shape and its cells. -/
structure Tb where
  kd : Nat → Nat
  lo : Nat → Int
  md : Nat → Int
  hg : Nat → Int
  sh : Nat → Sh
  cs : Nat → List Value
  ph : Nat → Int

structure TbOk (T : Tb) : Prop where
  k8 : ∀ o, 1 ≤ o → o ≤ 31 → T.kd o < 8
  l0 : ∀ o, 0 ≤ T.lo o ∧ T.lo o < 128
  m0 : ∀ o, 0 ≤ T.md o ∧ T.md o < 8
  h0 : ∀ o, 0 ≤ T.hg o ∧ T.hg o < 128
  is : ∀ k, k < 8 → ShIs (T.cs k) (T.sh k)
  ok : ∀ k, k < 8 → ShOk (T.sh k)
  ph : ∀ k, k < 8 → (T.sh k).sg = true → (2 : Int) ^ ((T.sh k).wd.toNat - 1) = T.ph k

def Tabs (T : Tb) (w : World) : Prop := ∀ o, 1 ≤ o → o ≤ 31 → TabAt w o (T.kd o) (T.lo o) (T.md o) (T.hg o) (T.cs (T.kd o))
theorem Tabs.below {T : Tb} {w w' : World} (h : Tabs T w) (hb : Below w.heap.size w w') : Tabs T w' := fun o h1 h2 => (h o h1 h2).below hb

end Go.Proofs.YtjjjdplgdlaihaaGreatDoor

namespace Go.Proofs.YtjjjdplgdlaihaaGreatDoor
open Go Go.RowKit

def formsL : List (Nat × Int × Int × Int) := [(0, 0, 0, 0), (0, 51, 0, 0), (0, 51, 0, 32), (0, 51, 0, 1), (0, 51, 4, 1), (0, 51, 6, 1), (0, 51, 7, 0), (0, 51, 6, 0), (0, 51, 4, 0), (0, 51, 2, 0), (0, 51, 3, 0), (0, 51, 1, 0), (0, 51, 5, 0), (0, 51, 5, 32), (1, 19, 0, 0), (1, 19, 7, 0), (1, 19, 6, 0), (1, 19, 4, 0), (1, 19, 2, 0), (2, 19, 1, 0), (2, 19, 5, 0), (2, 19, 5, 32), (1, 3, 3, 0), (1, 103, 0, 0), (3, 35, 3, 0), (4, 99, 0, 0), (4, 99, 1, 0), (4, 99, 4, 0), (4, 99, 5, 0), (5, 55, 0, 0), (6, 111, 0, 0), (7, 115, 0, 0)]
def sh0 : Sh := { rd := true, ra := true, rb := true, sg := false, wd := 0, zs := 0, fx := 4261441663, f0 := 0, t0 := 0, c0 := 0, f1 := 0, t1 := 0, c1 := 0, f2 := 0, t2 := 0, c2 := 0, f3 := 0, t3 := 0, c3 := 0, pf0 := 1, pt0 := 1, pc0 := 1, pf1 := 1, pt1 := 1, pc1 := 1, pf2 := 1, pt2 := 1, pc2 := 1, pf3 := 1, pt3 := 1, pc3 := 1, pw := 1, pz := 1 }
def sh1 : Sh := { rd := true, ra := true, rb := false, sg := true, wd := 12, zs := 0, fx := 28799, f0 := 0, t0 := 20, c0 := 12, f1 := 0, t1 := 0, c1 := 0, f2 := 0, t2 := 0, c2 := 0, f3 := 0, t3 := 0, c3 := 0, pf0 := 1, pt0 := 1048576, pc0 := 4096, pf1 := 1, pt1 := 1, pc1 := 1, pf2 := 1, pt2 := 1, pc2 := 1, pf3 := 1, pt3 := 1, pc3 := 1, pw := 4096, pz := 1 }
def sh2 : Sh := { rd := true, ra := true, rb := false, sg := false, wd := 6, zs := 0, fx := 4227887231, f0 := 0, t0 := 20, c0 := 6, f1 := 0, t1 := 0, c1 := 0, f2 := 0, t2 := 0, c2 := 0, f3 := 0, t3 := 0, c3 := 0, pf0 := 1, pt0 := 1048576, pc0 := 64, pf1 := 1, pt1 := 1, pc1 := 1, pf2 := 1, pt2 := 1, pc2 := 1, pf3 := 1, pt3 := 1, pc3 := 1, pw := 64, pz := 1 }
def sh3 : Sh := { rd := false, ra := true, rb := true, sg := true, wd := 12, zs := 0, fx := 28799, f0 := 0, t0 := 7, c0 := 5, f1 := 5, t1 := 25, c1 := 7, f2 := 0, t2 := 0, c2 := 0, f3 := 0, t3 := 0, c3 := 0, pf0 := 1, pt0 := 128, pc0 := 32, pf1 := 32, pt1 := 33554432, pc1 := 128, pf2 := 1, pt2 := 1, pc2 := 1, pf3 := 1, pt3 := 1, pc3 := 1, pw := 4096, pz := 1 }
def sh4 : Sh := { rd := false, ra := true, rb := true, sg := true, wd := 13, zs := 1, fx := 28799, f0 := 11, t0 := 7, c0 := 1, f1 := 1, t1 := 8, c1 := 4, f2 := 5, t2 := 25, c2 := 6, f3 := 12, t3 := 31, c3 := 1, pf0 := 2048, pt0 := 128, pc0 := 2, pf1 := 2, pt1 := 256, pc1 := 16, pf2 := 32, pt2 := 33554432, pc2 := 64, pf3 := 4096, pt3 := 2147483648, pc3 := 2, pw := 8192, pz := 2 }
def sh5 : Sh := { rd := true, ra := false, rb := false, sg := true, wd := 32, zs := 12, fx := 127, f0 := 12, t0 := 12, c0 := 20, f1 := 0, t1 := 0, c1 := 0, f2 := 0, t2 := 0, c2 := 0, f3 := 0, t3 := 0, c3 := 0, pf0 := 4096, pt0 := 4096, pc0 := 1048576, pf1 := 1, pt1 := 1, pc1 := 1, pf2 := 1, pt2 := 1, pc2 := 1, pf3 := 1, pt3 := 1, pc3 := 1, pw := 4294967296, pz := 4096 }
def sh6 : Sh := { rd := true, ra := false, rb := false, sg := true, wd := 21, zs := 1, fx := 127, f0 := 12, t0 := 12, c0 := 8, f1 := 11, t1 := 20, c1 := 1, f2 := 1, t2 := 21, c2 := 10, f3 := 20, t3 := 31, c3 := 1, pf0 := 4096, pt0 := 4096, pc0 := 256, pf1 := 2048, pt1 := 1048576, pc1 := 2, pf2 := 2, pt2 := 2097152, pc2 := 1024, pf3 := 1048576, pt3 := 2147483648, pc3 := 2, pw := 2097152, pz := 2 }
def sh7 : Sh := { rd := false, ra := false, rb := false, sg := false, wd := 0, zs := 0, fx := 4294967295, f0 := 0, t0 := 0, c0 := 0, f1 := 0, t1 := 0, c1 := 0, f2 := 0, t2 := 0, c2 := 0, f3 := 0, t3 := 0, c3 := 0, pf0 := 1, pt0 := 1, pc0 := 1, pf1 := 1, pt1 := 1, pc1 := 1, pf2 := 1, pt2 := 1, pc2 := 1, pf3 := 1, pt3 := 1, pc3 := 1, pw := 1, pz := 1 }
def shapesL : List Sh := [sh0, sh1, sh2, sh3, sh4, sh5, sh6, sh7]
def phL : List Int := [1, 2048, 1, 2048, 4096, 2147483648, 1048576, 1]
def Sh.cells (s : Sh) : List Value := [.bool s.rd, .bool s.ra, .bool s.rb, .bool s.sg, .int .u8 s.wd, .int .u8 s.zs, .int .u32 s.fx, .int .u8 s.f0, .int .u8 s.t0, .int .u8 s.c0, .int .u8 s.f1, .int .u8 s.t1, .int .u8 s.c1, .int .u8 s.f2, .int .u8 s.t2, .int .u8 s.c2, .int .u8 s.f3, .int .u8 s.t3, .int .u8 s.c3]
theorem Sh.cells_is (s : Sh) : ShIs s.cells s where
  len := rfl
  one := by intro v hv; simp [Sh.cells] at hv; rcases hv with rfl | rfl | rfl | rfl | rfl | rfl | rfl | rfl | rfl | rfl | rfl | rfl | rfl | rfl | rfl | rfl | rfl | rfl | rfl <;> rfl
  g0 := fun _ => rfl
  g1 := fun _ => rfl
  g2 := fun _ => rfl
  g3 := fun _ => rfl
  g4 := fun _ => rfl
  g5 := fun _ => rfl
  g6 := fun _ => rfl
  g7 := fun _ => rfl
  g8 := fun _ => rfl
  g9 := fun _ => rfl
  g10 := fun _ => rfl
  g11 := fun _ => rfl
  g12 := fun _ => rfl
  g13 := fun _ => rfl
  g14 := fun _ => rfl
  g15 := fun _ => rfl
  g16 := fun _ => rfl
  g17 := fun _ => rfl
  g18 := fun _ => rfl

def T : Tb where
  kd o := (formsL.getD o (0, 0, 0, 0)).1
  lo o := (formsL.getD o (0, 0, 0, 0)).2.1
  md o := (formsL.getD o (0, 0, 0, 0)).2.2.1
  hg o := (formsL.getD o (0, 0, 0, 0)).2.2.2
  sh k := shapesL.getD k sh0
  cs k := (shapesL.getD k sh0).cells
  ph k := phL.getD k 0
theorem sh0_ok : ShOk sh0 := ⟨by decide, by decide, by decide, by decide, by rfl, by rfl, by decide, by decide, by decide, by decide, by decide, ⟨by decide, by decide, by decide, by decide, by decide, by decide, by rfl, by rfl, by rfl, by decide, by decide⟩, ⟨by decide, by decide, by decide, by decide, by decide, by decide, by rfl, by rfl, by rfl, by decide, by decide⟩, ⟨by decide, by decide, by decide, by decide, by decide, by decide, by rfl, by rfl, by rfl, by decide, by decide⟩, ⟨by decide, by decide, by decide, by decide, by decide, by decide, by rfl, by rfl, by rfl, by decide, by decide⟩⟩
theorem sh1_ok : ShOk sh1 := ⟨by decide, by decide, by decide, by decide, by rfl, by rfl, by decide, by decide, by decide, by decide, by decide, ⟨by decide, by decide, by decide, by decide, by decide, by decide, by rfl, by rfl, by rfl, by decide, by decide⟩, ⟨by decide, by decide, by decide, by decide, by decide, by decide, by rfl, by rfl, by rfl, by decide, by decide⟩, ⟨by decide, by decide, by decide, by decide, by decide, by decide, by rfl, by rfl, by rfl, by decide, by decide⟩, ⟨by decide, by decide, by decide, by decide, by decide, by decide, by rfl, by rfl, by rfl, by decide, by decide⟩⟩
theorem sh2_ok : ShOk sh2 := ⟨by decide, by decide, by decide, by decide, by rfl, by rfl, by decide, by decide, by decide, by decide, by decide, ⟨by decide, by decide, by decide, by decide, by decide, by decide, by rfl, by rfl, by rfl, by decide, by decide⟩, ⟨by decide, by decide, by decide, by decide, by decide, by decide, by rfl, by rfl, by rfl, by decide, by decide⟩, ⟨by decide, by decide, by decide, by decide, by decide, by decide, by rfl, by rfl, by rfl, by decide, by decide⟩, ⟨by decide, by decide, by decide, by decide, by decide, by decide, by rfl, by rfl, by rfl, by decide, by decide⟩⟩
theorem sh3_ok : ShOk sh3 := ⟨by decide, by decide, by decide, by decide, by rfl, by rfl, by decide, by decide, by decide, by decide, by decide, ⟨by decide, by decide, by decide, by decide, by decide, by decide, by rfl, by rfl, by rfl, by decide, by decide⟩, ⟨by decide, by decide, by decide, by decide, by decide, by decide, by rfl, by rfl, by rfl, by decide, by decide⟩, ⟨by decide, by decide, by decide, by decide, by decide, by decide, by rfl, by rfl, by rfl, by decide, by decide⟩, ⟨by decide, by decide, by decide, by decide, by decide, by decide, by rfl, by rfl, by rfl, by decide, by decide⟩⟩
theorem sh4_ok : ShOk sh4 := ⟨by decide, by decide, by decide, by decide, by rfl, by rfl, by decide, by decide, by decide, by decide, by decide, ⟨by decide, by decide, by decide, by decide, by decide, by decide, by rfl, by rfl, by rfl, by decide, by decide⟩, ⟨by decide, by decide, by decide, by decide, by decide, by decide, by rfl, by rfl, by rfl, by decide, by decide⟩, ⟨by decide, by decide, by decide, by decide, by decide, by decide, by rfl, by rfl, by rfl, by decide, by decide⟩, ⟨by decide, by decide, by decide, by decide, by decide, by decide, by rfl, by rfl, by rfl, by decide, by decide⟩⟩
theorem sh5_ok : ShOk sh5 := ⟨by decide, by decide, by decide, by decide, by rfl, by rfl, by decide, by decide, by decide, by decide, by decide, ⟨by decide, by decide, by decide, by decide, by decide, by decide, by rfl, by rfl, by rfl, by decide, by decide⟩, ⟨by decide, by decide, by decide, by decide, by decide, by decide, by rfl, by rfl, by rfl, by decide, by decide⟩, ⟨by decide, by decide, by decide, by decide, by decide, by decide, by rfl, by rfl, by rfl, by decide, by decide⟩, ⟨by decide, by decide, by decide, by decide, by decide, by decide, by rfl, by rfl, by rfl, by decide, by decide⟩⟩
theorem sh6_ok : ShOk sh6 := ⟨by decide, by decide, by decide, by decide, by rfl, by rfl, by decide, by decide, by decide, by decide, by decide, ⟨by decide, by decide, by decide, by decide, by decide, by decide, by rfl, by rfl, by rfl, by decide, by decide⟩, ⟨by decide, by decide, by decide, by decide, by decide, by decide, by rfl, by rfl, by rfl, by decide, by decide⟩, ⟨by decide, by decide, by decide, by decide, by decide, by decide, by rfl, by rfl, by rfl, by decide, by decide⟩, ⟨by decide, by decide, by decide, by decide, by decide, by decide, by rfl, by rfl, by rfl, by decide, by decide⟩⟩
theorem sh7_ok : ShOk sh7 := ⟨by decide, by decide, by decide, by decide, by rfl, by rfl, by decide, by decide, by decide, by decide, by decide, ⟨by decide, by decide, by decide, by decide, by decide, by decide, by rfl, by rfl, by rfl, by decide, by decide⟩, ⟨by decide, by decide, by decide, by decide, by decide, by decide, by rfl, by rfl, by rfl, by decide, by decide⟩, ⟨by decide, by decide, by decide, by decide, by decide, by decide, by rfl, by rfl, by rfl, by decide, by decide⟩, ⟨by decide, by decide, by decide, by decide, by decide, by decide, by rfl, by rfl, by rfl, by decide, by decide⟩⟩

theorem formsL_fact : ∀ r ∈ formsL, r.1 < 8 ∧ (0 ≤ r.2.1 ∧ r.2.1 < 128) ∧ (0 ≤ r.2.2.1 ∧ r.2.2.1 < 8) ∧ (0 ≤ r.2.2.2 ∧ r.2.2.2 < 128) := by decide
theorem formsL_getD (o : Nat) : (formsL.getD o (0, 0, 0, 0)).1 < 8 ∧ (0 ≤ (formsL.getD o (0, 0, 0, 0)).2.1 ∧ (formsL.getD o (0, 0, 0, 0)).2.1 < 128) ∧ (0 ≤ (formsL.getD o (0, 0, 0, 0)).2.2.1 ∧ (formsL.getD o (0, 0, 0, 0)).2.2.1 < 8) ∧ (0 ≤ (formsL.getD o (0, 0, 0, 0)).2.2.2 ∧ (formsL.getD o (0, 0, 0, 0)).2.2.2 < 128) := by
  by_cases h : o < formsL.length
  · rw [List.getD_eq_getElem?_getD, List.getElem?_eq_getElem h]
    exact formsL_fact _ (List.getElem_mem h)
  · rw [List.getD_eq_getElem?_getD, List.getElem?_eq_none (by omega)]
    decide
theorem lt8 {k : Nat} (h : k < 8) : k = 0 ∨ k = 1 ∨ k = 2 ∨ k = 3 ∨ k = 4 ∨ k = 5 ∨ k = 6 ∨ k = 7 := by omega
theorem T_ok : TbOk T where
  k8 o _ _ := (formsL_getD o).1
  l0 o := (formsL_getD o).2.1
  m0 o := (formsL_getD o).2.2.1
  h0 o := (formsL_getD o).2.2.2
  is k _ := Sh.cells_is _
  ok k h := by
    rcases lt8 h with rfl | rfl | rfl | rfl | rfl | rfl | rfl | rfl
    · exact sh0_ok
    · exact sh1_ok
    · exact sh2_ok
    · exact sh3_ok
    · exact sh4_ok
    · exact sh5_ok
    · exact sh6_ok
    · exact sh7_ok
  ph k h := by
    rcases lt8 h with rfl | rfl | rfl | rfl | rfl | rfl | rfl | rfl <;> intro hs <;> first | rfl | exact absurd hs (by decide)
end Go.Proofs.YtjjjdplgdlaihaaGreatDoor

namespace Go.Proofs.YtjjjdplgdlaihaaGreatDoor
open Go Go.RowKit

section
variable {H : Type} {enc : TypeId × Value → H} {P : Program} {w : World} {base : Nat} {sp : Nat → Bool} {held : Bool}

theorem arr_at {fuel n : Nat} {t e : TypeId} {cs : List Value} {ds : List (DataW H)} {p : List MemPlace} (ht : P.underlying t = some (.array n e)) (h : DataW.trod enc P w base sp held fuel t cs = some (.agg ds, p)) (i : Nat) (hi : i < n) :
    ∃ fuel' d p', ds[i]? = some d ∧ DataW.trod enc P w base sp held fuel' e ((cs.drop (i * P.cellsOf e)).take (P.cellsOf e)) = some (d, p') := by
  obtain ⟨xs, m, rfl, hx, hl, hn, hel⟩ := DataW.trod_array ht h
  have h1 := hel i hi
  simp only [Prod.mk.injEq, DataW.agg.injEq] at hx
  have hlt : i < xs.length := by omega
  rw [List.getElem?_eq_getElem hlt] at h1
  exact ⟨m, xs[i].1, xs[i].2, by rw [hx.1]; simp [hlt], h1⟩

theorem str_at {fuel : Nat} {t : TypeId} {fs : Array Field} {cs : List Value} {ds : List (DataW H)} {p : List MemPlace} (ht : P.underlying t = some (.struct fs)) (h : DataW.trod enc P w base sp held fuel t cs = some (.agg ds, p)) (i : Nat) (f : Field) (hf : fs.toList[i]? = some f) :
    ∃ fuel' d p', ds[i]? = some d ∧ DataW.trod enc P w base sp held fuel' f.type ((cs.drop f.offset).take (P.cellsOf f.type)) = some (d, p') := by
  cases fuel with
  | zero => simp [DataW.trod] at h
  | succ m =>
    simp only [DataW.trod, ht] at h
    split at h
    · obtain ⟨xs, hm, hx⟩ := Option.map_eq_some_iff.1 h
      obtain ⟨b, hb, hb2⟩ := Lib.mapM_at hm i f hf
      simp only [Prod.mk.injEq, DataW.agg.injEq] at hx
      exact ⟨m, b.1, b.2, by rw [← hx.1]; simp [hb], hb2⟩
    · cases h

theorem int_is {fuel : Nat} {t : TypeId} {k k' : IntKind} {z : Int} {cs : List Value} {p : List MemPlace} (ht : P.underlying t = some (.int k)) (h : DataW.trod enc P w base sp held fuel t cs = some (.lit (.int k' z), p)) : cs = [.int k' z] := by
  obtain ⟨n, h1, h2, _⟩ := DataW.trod_int ht h
  simp only [Prod.mk.injEq, DataW.lit.injEq, Lit.int.injEq] at h2
  rw [h1, h2.1.1, h2.1.2]
theorem bool_is {fuel : Nat} {t : TypeId} {b : Bool} {cs : List Value} {p : List MemPlace} (ht : P.underlying t = some .bool) (h : DataW.trod enc P w base sp held fuel t cs = some (.lit (.bool b), p)) : cs = [.bool b] := by
  obtain ⟨n, h1, h2⟩ := DataW.trod_bool ht h
  simp only [Prod.mk.injEq, DataW.lit.injEq, Lit.bool.injEq] at h2
  rw [h1, h2.1]
end

theorem sub_get {cs l : List Value} {a b : Nat} (h : (cs.drop a).take b = l) (j : Nat) (v : Value) (hv : l[j]? = some v) : cs[a + j]? = some v := by
  subst h
  rw [List.getElem?_take] at hv
  split at hv
  · rw [List.getElem?_drop] at hv; exact hv
  · cases hv

abbrev formD {H : Type} (r : Nat × Int × Int × Int) : DataW H := .agg [.lit (.int .u8 r.1), .lit (.int .u8 r.2.1), .lit (.int .u8 r.2.2.1), .lit (.int .u8 r.2.2.2)]
abbrev moveD {H : Type} (f t c : Int) : DataW H := .agg [.lit (.int .u8 f), .lit (.int .u8 t), .lit (.int .u8 c)]
abbrev shapeD {H : Type} (s : Sh) : DataW H := .agg [.lit (.bool s.rd), .lit (.bool s.ra), .lit (.bool s.rb), .lit (.bool s.sg), .lit (.int .u8 s.wd), .lit (.int .u8 s.zs), .lit (.int .u32 s.fx), .agg [moveD s.f0 s.t0 s.c0, moveD s.f1 s.t1 s.c1, moveD s.f2 s.t2 s.c2, moveD s.f3 s.t3 s.c3]]
theorem formsD {H : Type} : (Rows.laid_bloomery_word_forms : DataW H) = .agg (formsL.map formD) := rfl
theorem shapesD {H : Type} : (Rows.laid_bloomery_word_shapes : DataW H) = .agg (shapesL.map shapeD) := rfl

theorem cells5 : Tryz.prog.cellsOf 5 = 1 := by kernel_rfl
theorem cells4 : Tryz.prog.cellsOf 4 = 1 := by kernel_rfl
theorem cells24 : Tryz.prog.cellsOf 43 = 1 := by kernel_rfl
theorem cells53 : Tryz.prog.cellsOf 135 = 4 := by kernel_rfl
theorem cells58 : Tryz.prog.cellsOf 129 = 3 := by kernel_rfl
theorem cells59 : Tryz.prog.cellsOf 130 = 12 := by kernel_rfl
theorem cells61 : Tryz.prog.cellsOf 132 = 19 := by kernel_rfl
end Go.Proofs.YtjjjdplgdlaihaaGreatDoor

namespace Go.Proofs.YtjjjdplgdlaihaaGreatDoor
open Go Go.RowKit

section
variable {H : Type} {enc : TypeId × Value → H} {w : World} {base : Nat} {sp : Nat → Bool} {held : Bool}

theorem int_sub {fuel : Nat} {l : List Value} {t : TypeId} {k k' : IntKind} {z : Int} {a : Nat} {p : List MemPlace} (ht : Tryz.prog.underlying t = some (.int k)) (hc : Tryz.prog.cellsOf t = 1)
    (h : DataW.trod enc Tryz.prog w base sp held fuel t ((l.drop a).take (Tryz.prog.cellsOf t)) = some (.lit (.int k' z), p)) : l[a]? = some (.int k' z) := by
  have := int_is ht h
  rw [hc] at this
  exact sub_get this 0 _ rfl
theorem bool_sub {fuel : Nat} {l : List Value} {t : TypeId} {b : Bool} {a : Nat} {p : List MemPlace} (ht : Tryz.prog.underlying t = some .bool) (hc : Tryz.prog.cellsOf t = 1)
    (h : DataW.trod enc Tryz.prog w base sp held fuel t ((l.drop a).take (Tryz.prog.cellsOf t)) = some (.lit (.bool b), p)) : l[a]? = some (.bool b) := by
  have := bool_is ht h
  rw [hc] at this
  exact sub_get this 0 _ rfl

theorem form_cells {fuel : Nat} {cs : List Value} {p : List MemPlace} (h : DataW.trod enc Tryz.prog w base sp held fuel 136 cs = some (.agg (formsL.map formD), p)) (o : Nat) (ho : o < 32) :
    cs[o * 4]? = some (.int .u8 (T.kd o : Int)) ∧ cs[o * 4 + 1]? = some (.int .u8 (T.lo o)) ∧ cs[o * 4 + 2]? = some (.int .u8 (T.md o)) ∧ cs[o * 4 + 3]? = some (.int .u8 (T.hg o)) := by
  obtain ⟨m, d, p', hd, h2⟩ := arr_at Tryz.underlying136 h o ho
  have hlt : o < formsL.length := ho
  rw [List.getElem?_map, List.getElem?_eq_getElem hlt] at hd
  simp only [Option.map_some, Option.some.injEq] at hd
  have hr : formsL[o] = formsL.getD o (0, 0, 0, 0) := by rw [List.getD_eq_getElem?_getD, List.getElem?_eq_getElem hlt]; rfl
  rw [hr] at hd
  rw [cells53] at h2
  subst hd
  obtain ⟨_, d0, _, e0, h0⟩ := str_at Tryz.underlying135 h2 0 _ rfl
  obtain ⟨_, d1, _, e1, h1⟩ := str_at Tryz.underlying135 h2 1 _ rfl
  obtain ⟨_, d2, _, e2, h2'⟩ := str_at Tryz.underlying135 h2 2 _ rfl
  obtain ⟨_, d3, _, e3, h3⟩ := str_at Tryz.underlying135 h2 3 _ rfl
  cases e0; cases e1; cases e2; cases e3
  exact ⟨sub_get rfl 0 _ (int_sub Tryz.underlying5 cells5 h0), sub_get rfl 1 _ (int_sub Tryz.underlying5 cells5 h1), sub_get rfl 2 _ (int_sub Tryz.underlying5 cells5 h2'), sub_get rfl 3 _ (int_sub Tryz.underlying5 cells5 h3)⟩

theorem arr_atc {fuel n c : Nat} {t e : TypeId} {cs : List Value} {ds : List (DataW H)} {p : List MemPlace} (ht : Tryz.prog.underlying t = some (.array n e)) (hce : Tryz.prog.cellsOf e = c) (h : DataW.trod enc Tryz.prog w base sp held fuel t cs = some (.agg ds, p)) (i : Nat) (hi : i < n) :
    ∃ fuel' d p', ds[i]? = some d ∧ DataW.trod enc Tryz.prog w base sp held fuel' e ((cs.drop (i * c)).take c) = some (d, p') := by
  subst hce
  exact arr_at ht h i hi

theorem move_cells {fuel : Nat} {cs : List Value} {p : List MemPlace} {a : Nat} {f t c : Int} (h : DataW.trod enc Tryz.prog w base sp held fuel 129 ((cs.drop a).take 3) = some (moveD f t c, p)) :
    cs[a]? = some (.int .u8 f) ∧ cs[a + 1]? = some (.int .u8 t) ∧ cs[a + 2]? = some (.int .u8 c) := by
  obtain ⟨_, d0, _, e0, h0⟩ := str_at Tryz.underlying129 h 0 _ rfl
  obtain ⟨_, d1, _, e1, h1⟩ := str_at Tryz.underlying129 h 1 _ rfl
  obtain ⟨_, d2, _, e2, h2⟩ := str_at Tryz.underlying129 h 2 _ rfl
  cases e0; cases e1; cases e2
  exact ⟨sub_get rfl 0 _ (int_sub Tryz.underlying5 cells5 h0), sub_get rfl 1 _ (int_sub Tryz.underlying5 cells5 h1), sub_get rfl 2 _ (int_sub Tryz.underlying5 cells5 h2)⟩

theorem shape_one {fuel : Nat} {l : List Value} {p : List MemPlace} {s : Sh} (h : DataW.trod enc Tryz.prog w base sp held fuel 132 l = some (shapeD s, p)) : ∀ (j : Nat) (v : Value), s.cells[j]? = some v → l[j]? = some v := by
  obtain ⟨_, d0, _, e0, h0⟩ := str_at Tryz.underlying132 h 0 _ rfl
  obtain ⟨_, d1, _, e1, h1⟩ := str_at Tryz.underlying132 h 1 _ rfl
  obtain ⟨_, d2, _, e2, h2⟩ := str_at Tryz.underlying132 h 2 _ rfl
  obtain ⟨_, d3, _, e3, h3⟩ := str_at Tryz.underlying132 h 3 _ rfl
  obtain ⟨_, d4, _, e4, h4⟩ := str_at Tryz.underlying132 h 4 _ rfl
  obtain ⟨_, d5, _, e5, h5⟩ := str_at Tryz.underlying132 h 5 _ rfl
  obtain ⟨_, d6, _, e6, h6⟩ := str_at Tryz.underlying132 h 6 _ rfl
  obtain ⟨_, d7, _, e7, h7⟩ := str_at Tryz.underlying132 h 7 _ rfl
  cases e0; cases e1; cases e2; cases e3; cases e4; cases e5; cases e6; cases e7
  have c59 : (l.drop 7).take (Tryz.prog.cellsOf 130) = (l.drop 7).take 12 := by rw [cells59]
  replace h7 := c59 ▸ h7
  obtain ⟨_, n0, _, x0, y0⟩ := arr_atc Tryz.underlying130 cells58 h7 0 (by omega)
  cases x0
  obtain ⟨a0, b0, c0⟩ := move_cells y0
  obtain ⟨_, n1, _, x1, y1⟩ := arr_atc Tryz.underlying130 cells58 h7 1 (by omega)
  cases x1
  obtain ⟨a1, b1, c1⟩ := move_cells y1
  obtain ⟨_, n2, _, x2, y2⟩ := arr_atc Tryz.underlying130 cells58 h7 2 (by omega)
  cases x2
  obtain ⟨a2, b2, c2⟩ := move_cells y2
  obtain ⟨_, n3, _, x3, y3⟩ := arr_atc Tryz.underlying130 cells58 h7 3 (by omega)
  cases x3
  obtain ⟨a3, b3, c3⟩ := move_cells y3
  have z0 : l[0]? = some (.bool s.rd) := bool_sub Tryz.underlying4 cells4 h0
  have z1 : l[1]? = some (.bool s.ra) := bool_sub Tryz.underlying4 cells4 h1
  have z2 : l[2]? = some (.bool s.rb) := bool_sub Tryz.underlying4 cells4 h2
  have z3 : l[3]? = some (.bool s.sg) := bool_sub Tryz.underlying4 cells4 h3
  have z4 : l[4]? = some (.int .u8 s.wd) := int_sub Tryz.underlying5 cells5 h4
  have z5 : l[5]? = some (.int .u8 s.zs) := int_sub Tryz.underlying5 cells5 h5
  have z6 : l[6]? = some (.int .u32 s.fx) := int_sub Tryz.underlying43 cells24 h6
  have z7 : l[7]? = some (.int .u8 s.f0) := sub_get rfl 0 _ a0
  have z8 : l[8]? = some (.int .u8 s.t0) := sub_get rfl 1 _ b0
  have z9 : l[9]? = some (.int .u8 s.c0) := sub_get rfl 2 _ c0
  have z10 : l[10]? = some (.int .u8 s.f1) := sub_get rfl 3 _ a1
  have z11 : l[11]? = some (.int .u8 s.t1) := sub_get rfl 4 _ b1
  have z12 : l[12]? = some (.int .u8 s.c1) := sub_get rfl 5 _ c1
  have z13 : l[13]? = some (.int .u8 s.f2) := sub_get rfl 6 _ a2
  have z14 : l[14]? = some (.int .u8 s.t2) := sub_get rfl 7 _ b2
  have z15 : l[15]? = some (.int .u8 s.c2) := sub_get rfl 8 _ c2
  have z16 : l[16]? = some (.int .u8 s.f3) := sub_get rfl 9 _ a3
  have z17 : l[17]? = some (.int .u8 s.t3) := sub_get rfl 10 _ b3
  have z18 : l[18]? = some (.int .u8 s.c3) := sub_get rfl 11 _ c3
  intro j v hv
  have hj : j < 19 := (List.getElem?_eq_some_iff.1 hv).1
  have hjj : j = 0 ∨ j = 1 ∨ j = 2 ∨ j = 3 ∨ j = 4 ∨ j = 5 ∨ j = 6 ∨ j = 7 ∨ j = 8 ∨ j = 9 ∨ j = 10 ∨ j = 11 ∨ j = 12 ∨ j = 13 ∨ j = 14 ∨ j = 15 ∨ j = 16 ∨ j = 17 ∨ j = 18 := by omega
  rcases hjj with rfl | rfl | rfl | rfl | rfl | rfl | rfl | rfl | rfl | rfl | rfl | rfl | rfl | rfl | rfl | rfl | rfl | rfl | rfl
  · rw [z0]; exact hv
  · rw [z1]; exact hv
  · rw [z2]; exact hv
  · rw [z3]; exact hv
  · rw [z4]; exact hv
  · rw [z5]; exact hv
  · rw [z6]; exact hv
  · rw [z7]; exact hv
  · rw [z8]; exact hv
  · rw [z9]; exact hv
  · rw [z10]; exact hv
  · rw [z11]; exact hv
  · rw [z12]; exact hv
  · rw [z13]; exact hv
  · rw [z14]; exact hv
  · rw [z15]; exact hv
  · rw [z16]; exact hv
  · rw [z17]; exact hv
  · rw [z18]; exact hv

theorem shape_cells {fuel : Nat} {cs : List Value} {p : List MemPlace} (h : DataW.trod enc Tryz.prog w base sp held fuel 133 cs = some (.agg (shapesL.map shapeD), p)) (k : Nat) (hk : k < 8) :
    ∀ (j : Nat) (v : Value), (T.cs k)[j]? = some v → cs[k * 19 + j]? = some v := by
  obtain ⟨m, d, p', hd, h2⟩ := arr_at Tryz.underlying133 h k hk
  have hlt : k < shapesL.length := hk
  rw [List.getElem?_map, List.getElem?_eq_getElem hlt] at hd
  simp only [Option.map_some, Option.some.injEq] at hd
  have hr : shapesL[k] = shapesL.getD k sh0 := by rw [List.getD_eq_getElem?_getD, List.getElem?_eq_getElem hlt]; rfl
  rw [hr] at hd
  rw [cells61] at h2
  subst hd
  intro j v hv
  exact sub_get rfl j v (shape_one h2 j v hv)
end

theorem gForms : Tryz.prog.globalNamed "bloomery/word.forms" = some 3 := by kernel_rfl
theorem gShapes : Tryz.prog.globalNamed "bloomery/word.shapes" = some 2 := by kernel_rfl
theorem tForms : (Tryz.prog.globals[3]?).map (·.type) = some 136 := by kernel_rfl
theorem tShapes : (Tryz.prog.globals[2]?).map (·.type) = some 133 := by kernel_rfl

theorem tabs_of_laid {W : World} (h : laidMet Tryz.prog [("bloomery/word.forms", Rows.laid_bloomery_word_forms), ("bloomery/word.shapes", Rows.laid_bloomery_word_shapes)] W) : Tabs T W := by
  obtain ⟨ps, ⟨g0, t0, cs0, f0, p0, q0, hg0, ht0, hv0, hd0, ⟨g1, t1, cs1, f1, p1, q1, hg1, ht1, hv1, hd1, _, _⟩, _⟩, _, _⟩ := h
  obtain rfl := Option.some.inj (gForms.symm.trans hg0)
  obtain rfl := Option.some.inj (gShapes.symm.trans hg1)
  obtain rfl := Option.some.inj (tForms.symm.trans ht0)
  obtain rfl := Option.some.inj (tShapes.symm.trans ht1)
  rw [formsD] at hd0
  rw [shapesD] at hd1
  have c0 : ∀ i, W.cell? ⟨3, i, none⟩ = cs0.toList[i]? := fun i => by rw [World.var?_cell hg0 hv0 i]; simp
  have c1 : ∀ i, W.cell? ⟨2, i, none⟩ = cs1.toList[i]? := fun i => by rw [World.var?_cell hg1 hv1 i]; simp
  intro o h1 h2
  obtain ⟨a0, a1, a2, a3⟩ := form_cells hd0 o (by omega)
  have hk := T_ok.k8 o h1 h2
  have hr : W.rangeAt 2 (T.kd o * 19) (T.cs (T.kd o)) := fun j v hv => by rw [c1]; exact shape_cells hd1 _ hk j v hv
  have b0 : W.cell? ⟨3, o * 4, none⟩ = some (.int .u8 (T.kd o : Int)) := by rw [c0]; exact a0
  have b1 : W.cell? ⟨2, T.kd o * 19 + 0, none⟩ = some (.bool (T.sh (T.kd o)).rd) := hr 0 _ rfl
  exact ⟨World.block_lt_of_cell? W _ b0, World.block_lt_of_cell? W _ b1, b0, by rw [c0]; exact a1, by rw [c0]; exact a2, by rw [c0]; exact a3, hr⟩
end Go.Proofs.YtjjjdplgdlaihaaGreatDoor

namespace Go.Proofs.YtjjjdplgdlaihaaGreatDoor
open Go Go.RowKit

/-- An instruction may be. -/
def Rt (o d a b n : Int) : Bool := decide (1 ≤ o) && decide (o ≤ 31) && rightB d a b n (T.sh (T.kd o.toNat))
theorem fit_f (r : Int) (h : fitB r false = true) : r = 0 := by
  simpa [fitB] using h

theorem fit_t (r : Int) (h : fitB r true = true) : 0 ≤ r ∧ r < 32 := by
  simp [fitB] at h; omega

theorem Rt_split {o d a b n : Int} (h : Rt o d a b n = true) : 1 ≤ o ∧ o ≤ 31 ∧ rightB d a b n (T.sh (T.kd o.toNat)) = true := by
  simp only [Rt, Bool.and_eq_true, decide_eq_true_eq] at h
  exact ⟨h.1.1, h.1.2, h.2⟩

theorem fit_any (r : Int) (has : Bool) (h : fitB r has = true) : 0 ≤ r ∧ r < 32 := by
  cases has
  · have := fit_f r h; omega
  · exact fit_t r h

theorem right_T (o d a b n : Int) (w : World) (ht : Tabs T w) :
    Calls Tryz.prog 36 #[instV o d a b n] w fun e w' => e = .returned (.bool (Rt o d a b n)) ∧ Below w.heap.size w w' := by
  by_cases h1 : 1 ≤ o
  · by_cases h2 : o ≤ 31
    · obtain ⟨k, rfl⟩ := Int.eq_ofNat_of_zero_le (show 0 ≤ o by omega)
      have e : Rt (k : Int) d a b n = rightB d a b n (T.sh (T.kd k)) := by simp [Rt, h1, h2]
      rw [e]
      exact right_yes k (T.kd k) _ _ _ d a b n _ _ w (by omega) (by omega) (T_ok.k8 k (by omega) (by omega)) (ht k (by omega) (by omega)) (T_ok.is _ (T_ok.k8 k (by omega) (by omega))) (T_ok.ok _ (T_ok.k8 k (by omega) (by omega)))
    · have e : Rt o d a b n = false := by simp [Rt, h2]
      rw [e]
      exact right_no o d a b n w (.inr (by omega))
  · have e : Rt o d a b n = false := by simp [Rt, h1]
    rw [e]
    exact right_no o d a b n w (.inl (by omega))

end Go.Proofs.YtjjjdplgdlaihaaGreatDoor
