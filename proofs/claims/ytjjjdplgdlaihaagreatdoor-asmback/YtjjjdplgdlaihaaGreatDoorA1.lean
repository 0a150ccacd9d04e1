/- What package word's tables hold, as the walks ask it: a shape's fields, its cells, and where a form and a shape lie in memory. -/
import Derived.Test.YtjjjdplgdlaihaaGreatDoorRows
import Derived.Test.YtjjjdplgdlaihaaGreatDoorA0
namespace Go.Proofs.YtjjjdplgdlaihaaGreatDoor
open Go Go.RowKit

structure Sh where
  rd : Bool
  ra : Bool
  rb : Bool
  sg : Bool
  wd : Int
  zs : Int
  fx : Int
  f0 : Int
  t0 : Int
  c0 : Int
  f1 : Int
  t1 : Int
  c1 : Int
  f2 : Int
  t2 : Int
  c2 : Int
  f3 : Int
  t3 : Int
  c3 : Int
  pf0 : Int
  pt0 : Int
  pc0 : Int
  pf1 : Int
  pt1 : Int
  pc1 : Int
  pf2 : Int
  pt2 : Int
  pc2 : Int
  pf3 : Int
  pt3 : Int
  pc3 : Int
  pw : Int
  pz : Int

/-- The cells of a shape, nineteen. -/
structure ShIs (cs : List Value) (s : Sh) : Prop where
  len : cs.length = 19
  one : ∀ v ∈ cs, v.oneCell' = true
  g0 : ∀ h : 0 < cs.length, cs[0]'h = .bool s.rd
  g1 : ∀ h : 1 < cs.length, cs[1]'h = .bool s.ra
  g2 : ∀ h : 2 < cs.length, cs[2]'h = .bool s.rb
  g3 : ∀ h : 3 < cs.length, cs[3]'h = .bool s.sg
  g4 : ∀ h : 4 < cs.length, cs[4]'h = .int .u8 s.wd
  g5 : ∀ h : 5 < cs.length, cs[5]'h = .int .u8 s.zs
  g6 : ∀ h : 6 < cs.length, cs[6]'h = .int .u32 s.fx
  g7 : ∀ h : 7 < cs.length, cs[7]'h = .int .u8 s.f0
  g8 : ∀ h : 8 < cs.length, cs[8]'h = .int .u8 s.t0
  g9 : ∀ h : 9 < cs.length, cs[9]'h = .int .u8 s.c0
  g10 : ∀ h : 10 < cs.length, cs[10]'h = .int .u8 s.f1
  g11 : ∀ h : 11 < cs.length, cs[11]'h = .int .u8 s.t1
  g12 : ∀ h : 12 < cs.length, cs[12]'h = .int .u8 s.c1
  g13 : ∀ h : 13 < cs.length, cs[13]'h = .int .u8 s.f2
  g14 : ∀ h : 14 < cs.length, cs[14]'h = .int .u8 s.t2
  g15 : ∀ h : 15 < cs.length, cs[15]'h = .int .u8 s.c2
  g16 : ∀ h : 16 < cs.length, cs[16]'h = .int .u8 s.f3
  g17 : ∀ h : 17 < cs.length, cs[17]'h = .int .u8 s.t3
  g18 : ∀ h : 18 < cs.length, cs[18]'h = .int .u8 s.c3

/-- One of a shape's moves, with the powers of two that go with it. -/
structure Mv (f t c pf pt pc : Int) : Prop where
  f0 : 0 ≤ f
  f1 : f ≤ 63
  t0 : 0 ≤ t
  t1 : t ≤ 31
  c0 : 0 ≤ c
  c1 : c ≤ 32
  ef : (2 : Int) ^ f.toNat = pf
  et : (2 : Int) ^ t.toNat = pt
  ec : (2 : Int) ^ c.toNat = pc
  pc1 : 1 ≤ pc
  pc2 : pc ≤ 4294967296

structure ShOk (s : Sh) : Prop where
  w0 : 0 ≤ s.wd
  w1 : s.wd ≤ 32
  z0 : 0 ≤ s.zs
  z1 : s.zs ≤ 32
  ew : (2 : Int) ^ s.wd.toNat = s.pw
  ez : (2 : Int) ^ s.zs.toNat = s.pz
  pw1 : 1 ≤ s.pw
  pw2 : s.pw ≤ 4294967296
  pz1 : 1 ≤ s.pz
  pz2 : s.pz ≤ 4294967296
  sw : s.sg = true → 1 ≤ s.wd
  m0 : Mv s.f0 s.t0 s.c0 s.pf0 s.pt0 s.pc0
  m1 : Mv s.f1 s.t1 s.c1 s.pf1 s.pt1 s.pc1
  m2 : Mv s.f2 s.t2 s.c2 s.pf2 s.pt2 s.pc2
  m3 : Mv s.f3 s.t3 s.c3 s.pf3 s.pt3 s.pc3

/-- In memory: form number o, and shape number k, its cells cs. -/
structure TabAt (w : World) (o k : Nat) (l m h : Int) (cs : List Value) : Prop where
  z0 : 3 < w.heap.size
  z1 : 2 < w.heap.size
  f0 : w.cell? ⟨3, o * 4, none⟩ = some (.int .u8 (k : Int))
  f1 : w.cell? ⟨3, o * 4 + 1, none⟩ = some (.int .u8 l)
  f2 : w.cell? ⟨3, o * 4 + 2, none⟩ = some (.int .u8 m)
  f3 : w.cell? ⟨3, o * 4 + 3, none⟩ = some (.int .u8 h)
  rng : w.rangeAt 2 (k * 19) cs

theorem TabAt.below {w w' : World} {o k : Nat} {l m h : Int} {cs : List Value} (ht : TabAt w o k l m h cs) (hb : Below w.heap.size w w') : TabAt w' o k l m h cs := by
  have c0 : ∀ j, w'.cell? ⟨3, j, none⟩ = w.cell? ⟨3, j, none⟩ := fun j => hb.cell (p := ⟨3, j, none⟩) ht.z0
  have hs := hb.size
  exact ⟨Nat.lt_of_lt_of_le ht.z0 hs, Nat.lt_of_lt_of_le ht.z1 hs, (c0 _).trans ht.f0, (c0 _).trans ht.f1, (c0 _).trans ht.f2, (c0 _).trans ht.f3, rangeAt_below ht.rng hb ht.z1⟩

theorem size61 {cs : List Value} {s : Sh} (h : ShIs cs s) : (Tryz.prog.info? 132).map (·.size) = some cs.length := by
  rw [h.len]; kernel_rfl
end Go.Proofs.YtjjjdplgdlaihaaGreatDoor
