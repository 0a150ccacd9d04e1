/- The two tables of package word as the program lays them, and that whatever memory reads so holds just these cells. -/
import Derived.Test.YtjjjdplgdlaihaaGreatDoorA8
import Derived.ProofKit
import Derived.LaidMore
import Derived.OpenShut
import Derived.Lib.LaidTab
namespace Go.Proofs.YtjjjdplgdlaihaaGreatDoor
open Go Go.RowKit

def formsL : List (Nat × Int × Int × Int) := [(0, 0, 0, 0), (0, 51, 0, 0), (0, 51, 0, 32), (0, 51, 0, 1), (0, 51, 4, 1), (0, 51, 6, 1), (0, 51, 7, 0), (0, 51, 6, 0), (0, 51, 4, 0), (0, 51, 2, 0), (0, 51, 3, 0), (0, 51, 1, 0), (0, 51, 5, 0), (0, 51, 5, 32), (1, 19, 0, 0), (1, 19, 7, 0), (1, 19, 6, 0), (1, 19, 4, 0), (1, 19, 2, 0), (2, 19, 1, 0), (2, 19, 5, 0), (2, 19, 5, 32), (1, 3, 3, 0), (1, 103, 0, 0), (3, 35, 3, 0), (4, 99, 0, 0), (4, 99, 1, 0), (4, 99, 4, 0), (4, 99, 5, 0), (5, 55, 0, 0), (6, 111, 0, 0), (7, 115, 0, 0)]
def sh0 : Sh := { rd := true, ra := true, rb := true, sg := false, wd := 0, zs := 0, fx := 4261441663, f0 := 0, t0 := 0, c0 := 0, f1 := 0, t1 := 0, c1 := 0, f2 := 0, t2 := 0, c2 := 0, f3 := 0, t3 := 0, c3 := 0, pf0 := 1, pt0 := 1, pc0 := 1, pf1 := 1, pt1 := 1, pc1 := 1, pf2 := 1, pt2 := 1, pc2 := 1, pf3 := 1, pt3 := 1, pc3 := 1, pw := 1, pz := 1 }
def sh1 : Sh := { rd := true, ra := true, rb := false, sg := true, wd := 12, zs := 0, fx := 28799, f0 := 0, t0 := 20, c0 := 12, f1 := 0, t1 := 0, c1 := 0, f2 := 0, t2 := 0, c2 := 0, f3 := 0, t3 := 0, c3 := 0, pf0 := 1, pt0 := 1048576, pc0 := 4096, pf1 := 1, pt1 := 1, pc1 := 1, pf2 := 1, pt2 := 1, pc2 := 1, pf3 := 1, pt3 := 1, pc3 := 1, pw := 4096, pz := 1 }
def sh2 : Sh := { rd := true, ra := true, rb := false, sg := false, wd := 6, zs := 0, fx := 4227887231, f0 := 0, t0 := 20, c0 := 6, f1 := 0, t1 := 0, c1 := 0, f2 := 0, t2 := 0, c2 := 0, f3 := 0, t3 := 0, c3 := 0, pf0 := 1, pt0 := 1048576, pc0 := 64, pf1 := 1, pt1 := 1, pc1 := 1, pf2 := 1, pt2 := 1, pc2 := 1, pf3 := 1, pt3 := 1, pc3 := 1, pw := 64, pz := 1 }
def sh3 : Sh := { rd := false, ra := true, rb := true, sg := true, wd := 12, zs := 0, fx := 28799, f0 := 0, t0 := 7, c0 := 5, f1 := 5, t1 := 25, c1 := 7, f2 := 0, t2 := 0, c2 := 0, f3 := 0, t3 := 0, c3 := 0, pf0 := 1, pt0 := 128, pc0 := 32, pf1 := 32, pt1 := 33554432, pc1 := 128, pf2 := 1, pt2 := 1, pc2 := 1, pf3 := 1, pt3 := 1, pc3 := 1, pw := 4096, pz := 1 }
def sh4 : Sh := { rd := false, ra := true, rb := true, sg := true, wd := 13, zs := 1, fx := 28799, f0 := 11, t0 := 7, c0 := 1, f1 := 1, t1 := 8, c1 := 4, f2 := 5, t2 := 25, c2 := 6, f3 := 12, t3 := 31, c3 := 1, pf0 := 2048, pt0 := 128, pc0 := 2, pf1 := 2, pt1 := 256, pc1 := 16, pf2 := 32, pt2 := 33554432, pc2 := 64, pf3 := 4096, pt3 := 2147483648, pc3 := 2, pw := 8192, pz := 2 }
def sh5 : Sh := { rd := true, ra := false, rb := false, sg := true, wd := 32, zs := 12, fx := 127, f0 := 12, t0 := 12, c0 := 20, f1 := 0, t1 := 0, c1 := 0, f2 := 0, t2 := 0, c2 := 0, f3 := 0, t3 := 0, c3 := 0, pf0 := 4096, pt0 := 4096, pc0 := 1048576, pf1 := 1, pt1 := 1, pc1 := 1, pf2 := 1, pt2 := 1, pc2 := 1, pf3 := 1, pt3 := 1, pc3 := 1, pw := 4294967296, pz := 4096 }
def sh6 : Sh := { rd := true, ra := false, rb := false, sg := true, wd := 21, zs := 1, fx := 127, f0 := 12, t0 := 12, c0 := 8, f1 := 11, t1 := 20, c1 := 1, f2 := 1, t2 := 21, c2 := 10, f3 := 20, t3 := 31, c3 := 1, pf0 := 4096, pt0 := 4096, pc0 := 256, pf1 := 2048, pt1 := 1048576, pc1 := 2, pf2 := 2, pt2 := 2097152, pc2 := 1024, pf3 := 1048576, pt3 := 2147483648, pc3 := 2, pw := 2097152, pz := 2 }
def sh7 : Sh := { rd := false, ra := false, rb := false, sg := false, wd := 0, zs := 0, fx := 4294967295, f0 := 0, t0 := 0, c0 := 0, f1 := 0, t1 := 0, c1 := 0, f2 := 0, t2 := 0, c2 := 0, f3 := 0, t3 := 0, c3 := 0, pf0 := 1, pt0 := 1, pc0 := 1, pf1 := 1, pt1 := 1, pc1 := 1, pf2 := 1, pt2 := 1, pc2 := 1, pf3 := 1, pt3 := 1, pc3 := 1, pw := 1, pz := 1 }
def shapesL : List Sh := [sh0, sh1, sh2, sh3, sh4, sh5, sh6, sh7]
def phL : List Int := [1, 2048, 1, 2048, 4096, 2147483648, 1048576, 1]
def Sh.cells (s : Sh) : List Value := [.bool s.rd, .bool s.ra, .bool s.rb, .bool s.sg, .int .u8 s.wd, .int .u8 s.zs, .int .u32 s.fx, .int .u8 s.f0, .int .u8 s.t0, .int .u8 s.c0, .int .u8 s.f1, .int .u8 s.t1, .int .u8 s.c1, .int .u8 s.f2, .int .u8 s.t2, .int .u8 s.c2, .int .u8 s.f3, .int .u8 s.t3, .int .u8 s.c3]
theorem Sh.cells_is (s : Sh) : ShIs s.cells s where
  len := rfl
  one := by intro v hv; simp [Sh.cells] at hv; rcases hv with rfl | rfl | rfl | rfl | rfl | rfl | rfl | rfl | rfl | rfl | rfl | rfl | rfl | rfl | rfl | rfl | rfl | rfl | rfl <;> rfl
  g0 := fun _ => rfl
  g1 := fun _ => rfl
  g2 := fun _ => rfl
  g3 := fun _ => rfl
  g4 := fun _ => rfl
  g5 := fun _ => rfl
  g6 := fun _ => rfl
  g7 := fun _ => rfl
  g8 := fun _ => rfl
  g9 := fun _ => rfl
  g10 := fun _ => rfl
  g11 := fun _ => rfl
  g12 := fun _ => rfl
  g13 := fun _ => rfl
  g14 := fun _ => rfl
  g15 := fun _ => rfl
  g16 := fun _ => rfl
  g17 := fun _ => rfl
  g18 := fun _ => rfl

def T : Tb where
  kd o := (formsL.getD o (0, 0, 0, 0)).1
  lo o := (formsL.getD o (0, 0, 0, 0)).2.1
  md o := (formsL.getD o (0, 0, 0, 0)).2.2.1
  hg o := (formsL.getD o (0, 0, 0, 0)).2.2.2
  sh k := shapesL.getD k sh0
  cs k := (shapesL.getD k sh0).cells
  ph k := phL.getD k 0
theorem sh0_ok : ShOk sh0 := ⟨by decide, by decide, by decide, by decide, by rfl, by rfl, by decide, by decide, by decide, by decide, by decide, ⟨by decide, by decide, by decide, by decide, by decide, by decide, by rfl, by rfl, by rfl, by decide, by decide⟩, ⟨by decide, by decide, by decide, by decide, by decide, by decide, by rfl, by rfl, by rfl, by decide, by decide⟩, ⟨by decide, by decide, by decide, by decide, by decide, by decide, by rfl, by rfl, by rfl, by decide, by decide⟩, ⟨by decide, by decide, by decide, by decide, by decide, by decide, by rfl, by rfl, by rfl, by decide, by decide⟩⟩
theorem sh1_ok : ShOk sh1 := ⟨by decide, by decide, by decide, by decide, by rfl, by rfl, by decide, by decide, by decide, by decide, by decide, ⟨by decide, by decide, by decide, by decide, by decide, by decide, by rfl, by rfl, by rfl, by decide, by decide⟩, ⟨by decide, by decide, by decide, by decide, by decide, by decide, by rfl, by rfl, by rfl, by decide, by decide⟩, ⟨by decide, by decide, by decide, by decide, by decide, by decide, by rfl, by rfl, by rfl, by decide, by decide⟩, ⟨by decide, by decide, by decide, by decide, by decide, by decide, by rfl, by rfl, by rfl, by decide, by decide⟩⟩
theorem sh2_ok : ShOk sh2 := ⟨by decide, by decide, by decide, by decide, by rfl, by rfl, by decide, by decide, by decide, by decide, by decide, ⟨by decide, by decide, by decide, by decide, by decide, by decide, by rfl, by rfl, by rfl, by decide, by decide⟩, ⟨by decide, by decide, by decide, by decide, by decide, by decide, by rfl, by rfl, by rfl, by decide, by decide⟩, ⟨by decide, by decide, by decide, by decide, by decide, by decide, by rfl, by rfl, by rfl, by decide, by decide⟩, ⟨by decide, by decide, by decide, by decide, by decide, by decide, by rfl, by rfl, by rfl, by decide, by decide⟩⟩
theorem sh3_ok : ShOk sh3 := ⟨by decide, by decide, by decide, by decide, by rfl, by rfl, by decide, by decide, by decide, by decide, by decide, ⟨by decide, by decide, by decide, by decide, by decide, by decide, by rfl, by rfl, by rfl, by decide, by decide⟩, ⟨by decide, by decide, by decide, by decide, by decide, by decide, by rfl, by rfl, by rfl, by decide, by decide⟩, ⟨by decide, by decide, by decide, by decide, by decide, by decide, by rfl, by rfl, by rfl, by decide, by decide⟩, ⟨by decide, by decide, by decide, by decide, by decide, by decide, by rfl, by rfl, by rfl, by decide, by decide⟩⟩
theorem sh4_ok : ShOk sh4 := ⟨by decide, by decide, by decide, by decide, by rfl, by rfl, by decide, by decide, by decide, by decide, by decide, ⟨by decide, by decide, by decide, by decide, by decide, by decide, by rfl, by rfl, by rfl, by decide, by decide⟩, ⟨by decide, by decide, by decide, by decide, by decide, by decide, by rfl, by rfl, by rfl, by decide, by decide⟩, ⟨by decide, by decide, by decide, by decide, by decide, by decide, by rfl, by rfl, by rfl, by decide, by decide⟩, ⟨by decide, by decide, by decide, by decide, by decide, by decide, by rfl, by rfl, by rfl, by decide, by decide⟩⟩
theorem sh5_ok : ShOk sh5 := ⟨by decide, by decide, by decide, by decide, by rfl, by rfl, by decide, by decide, by decide, by decide, by decide, ⟨by decide, by decide, by decide, by decide, by decide, by decide, by rfl, by rfl, by rfl, by decide, by decide⟩, ⟨by decide, by decide, by decide, by decide, by decide, by decide, by rfl, by rfl, by rfl, by decide, by decide⟩, ⟨by decide, by decide, by decide, by decide, by decide, by decide, by rfl, by rfl, by rfl, by decide, by decide⟩, ⟨by decide, by decide, by decide, by decide, by decide, by decide, by rfl, by rfl, by rfl, by decide, by decide⟩⟩
theorem sh6_ok : ShOk sh6 := ⟨by decide, by decide, by decide, by decide, by rfl, by rfl, by decide, by decide, by decide, by decide, by decide, ⟨by decide, by decide, by decide, by decide, by decide, by decide, by rfl, by rfl, by rfl, by decide, by decide⟩, ⟨by decide, by decide, by decide, by decide, by decide, by decide, by rfl, by rfl, by rfl, by decide, by decide⟩, ⟨by decide, by decide, by decide, by decide, by decide, by decide, by rfl, by rfl, by rfl, by decide, by decide⟩, ⟨by decide, by decide, by decide, by decide, by decide, by decide, by rfl, by rfl, by rfl, by decide, by decide⟩⟩
theorem sh7_ok : ShOk sh7 := ⟨by decide, by decide, by decide, by decide, by rfl, by rfl, by decide, by decide, by decide, by decide, by decide, ⟨by decide, by decide, by decide, by decide, by decide, by decide, by rfl, by rfl, by rfl, by decide, by decide⟩, ⟨by decide, by decide, by decide, by decide, by decide, by decide, by rfl, by rfl, by rfl, by decide, by decide⟩, ⟨by decide, by decide, by decide, by decide, by decide, by decide, by rfl, by rfl, by rfl, by decide, by decide⟩, ⟨by decide, by decide, by decide, by decide, by decide, by decide, by rfl, by rfl, by rfl, by decide, by decide⟩⟩

theorem formsL_fact : ∀ r ∈ formsL, r.1 < 8 ∧ (0 ≤ r.2.1 ∧ r.2.1 < 128) ∧ (0 ≤ r.2.2.1 ∧ r.2.2.1 < 8) ∧ (0 ≤ r.2.2.2 ∧ r.2.2.2 < 128) := by decide
theorem formsL_getD (o : Nat) : (formsL.getD o (0, 0, 0, 0)).1 < 8 ∧ (0 ≤ (formsL.getD o (0, 0, 0, 0)).2.1 ∧ (formsL.getD o (0, 0, 0, 0)).2.1 < 128) ∧ (0 ≤ (formsL.getD o (0, 0, 0, 0)).2.2.1 ∧ (formsL.getD o (0, 0, 0, 0)).2.2.1 < 8) ∧ (0 ≤ (formsL.getD o (0, 0, 0, 0)).2.2.2 ∧ (formsL.getD o (0, 0, 0, 0)).2.2.2 < 128) := by
  by_cases h : o < formsL.length
  · rw [List.getD_eq_getElem?_getD, List.getElem?_eq_getElem h]
    exact formsL_fact _ (List.getElem_mem h)
  · rw [List.getD_eq_getElem?_getD, List.getElem?_eq_none (by omega)]
    decide
theorem lt8 {k : Nat} (h : k < 8) : k = 0 ∨ k = 1 ∨ k = 2 ∨ k = 3 ∨ k = 4 ∨ k = 5 ∨ k = 6 ∨ k = 7 := by omega
theorem T_ok : TbOk T where
  k8 o _ _ := (formsL_getD o).1
  l0 o := (formsL_getD o).2.1
  m0 o := (formsL_getD o).2.2.1
  h0 o := (formsL_getD o).2.2.2
  is k _ := Sh.cells_is _
  ok k h := by
    rcases lt8 h with rfl | rfl | rfl | rfl | rfl | rfl | rfl | rfl
    · exact sh0_ok
    · exact sh1_ok
    · exact sh2_ok
    · exact sh3_ok
    · exact sh4_ok
    · exact sh5_ok
    · exact sh6_ok
    · exact sh7_ok
  ph k h := by
    rcases lt8 h with rfl | rfl | rfl | rfl | rfl | rfl | rfl | rfl <;> intro hs <;> first | rfl | exact absurd hs (by decide)
end Go.Proofs.YtjjjdplgdlaihaaGreatDoor
