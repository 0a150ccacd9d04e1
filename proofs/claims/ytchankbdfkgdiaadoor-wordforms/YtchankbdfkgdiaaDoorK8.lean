/- A word is one instruction: over the program's own tables. -/
import Derived.Test.YtchankbdfkgdiaaDoorK7
namespace Go.Proofs.YtchankbdfkgdiaaDoor
open Go Go.RowKit

theorem lt32 {o : Nat} (h1 : 1 ≤ o) (h2 : o ≤ 31) : o = 1 ∨ o = 2 ∨ o = 3 ∨ o = 4 ∨ o = 5 ∨ o = 6 ∨ o = 7 ∨ o = 8 ∨ o = 9 ∨ o = 10 ∨ o = 11 ∨ o = 12 ∨ o = 13 ∨ o = 14 ∨ o = 15 ∨ o = 16 ∨ o = 17 ∨ o = 18 ∨ o = 19 ∨ o = 20 ∨ o = 21 ∨ o = 22 ∨ o = 23 ∨ o = 24 ∨ o = 25 ∨ o = 26 ∨ o = 27 ∨ o = 28 ∨ o = 29 ∨ o = 30 ∨ o = 31 := by omega
theorem enc_all (o : Nat) (h1 : 1 ≤ o) (h2 : o ≤ 31) (d a b n : Int) (hr : rightB d a b n (T.sh (T.kd o)) = true) :
    ∃ W : Nat, W < 4294967296 ∧ encV (T.lo o) (T.md o) (T.hg o) d a b n (T.sh (T.kd o)) = (W : Int) ∧ bits .and .u32 (W : Int) (T.sh (T.kd o)).fx = obV (T.lo o) (T.md o) (T.hg o) ∧
      regV W 128 (T.sh (T.kd o)).rd = d ∧ regV W 32768 (T.sh (T.kd o)).ra = a ∧ regV W 1048576 (T.sh (T.kd o)).rb = b ∧ gatherV W (T.ph (T.kd o)) (T.sh (T.kd o)) = n := by
  rcases lt32 h1 h2 with rfl | rfl | rfl | rfl | rfl | rfl | rfl | rfl | rfl | rfl | rfl | rfl | rfl | rfl | rfl | rfl | rfl | rfl | rfl | rfl | rfl | rfl | rfl | rfl | rfl | rfl | rfl | rfl | rfl | rfl | rfl
  · obtain ⟨W, h⟩ := encK0 51 0 0 (by decide) (by decide) (by decide) d a b n hr
    exact ⟨W, h.lt, h.enc, h.hit, h.rd, h.ra, h.rb, h.num⟩
  · obtain ⟨W, h⟩ := encK0 51 0 32 (by decide) (by decide) (by decide) d a b n hr
    exact ⟨W, h.lt, h.enc, h.hit, h.rd, h.ra, h.rb, h.num⟩
  · obtain ⟨W, h⟩ := encK0 51 0 1 (by decide) (by decide) (by decide) d a b n hr
    exact ⟨W, h.lt, h.enc, h.hit, h.rd, h.ra, h.rb, h.num⟩
  · obtain ⟨W, h⟩ := encK0 51 4 1 (by decide) (by decide) (by decide) d a b n hr
    exact ⟨W, h.lt, h.enc, h.hit, h.rd, h.ra, h.rb, h.num⟩
  · obtain ⟨W, h⟩ := encK0 51 6 1 (by decide) (by decide) (by decide) d a b n hr
    exact ⟨W, h.lt, h.enc, h.hit, h.rd, h.ra, h.rb, h.num⟩
  · obtain ⟨W, h⟩ := encK0 51 7 0 (by decide) (by decide) (by decide) d a b n hr
    exact ⟨W, h.lt, h.enc, h.hit, h.rd, h.ra, h.rb, h.num⟩
  · obtain ⟨W, h⟩ := encK0 51 6 0 (by decide) (by decide) (by decide) d a b n hr
    exact ⟨W, h.lt, h.enc, h.hit, h.rd, h.ra, h.rb, h.num⟩
  · obtain ⟨W, h⟩ := encK0 51 4 0 (by decide) (by decide) (by decide) d a b n hr
    exact ⟨W, h.lt, h.enc, h.hit, h.rd, h.ra, h.rb, h.num⟩
  · obtain ⟨W, h⟩ := encK0 51 2 0 (by decide) (by decide) (by decide) d a b n hr
    exact ⟨W, h.lt, h.enc, h.hit, h.rd, h.ra, h.rb, h.num⟩
  · obtain ⟨W, h⟩ := encK0 51 3 0 (by decide) (by decide) (by decide) d a b n hr
    exact ⟨W, h.lt, h.enc, h.hit, h.rd, h.ra, h.rb, h.num⟩
  · obtain ⟨W, h⟩ := encK0 51 1 0 (by decide) (by decide) (by decide) d a b n hr
    exact ⟨W, h.lt, h.enc, h.hit, h.rd, h.ra, h.rb, h.num⟩
  · obtain ⟨W, h⟩ := encK0 51 5 0 (by decide) (by decide) (by decide) d a b n hr
    exact ⟨W, h.lt, h.enc, h.hit, h.rd, h.ra, h.rb, h.num⟩
  · obtain ⟨W, h⟩ := encK0 51 5 32 (by decide) (by decide) (by decide) d a b n hr
    exact ⟨W, h.lt, h.enc, h.hit, h.rd, h.ra, h.rb, h.num⟩
  · obtain ⟨W, h⟩ := encK1 19 0 (by decide) (by decide) d a b n hr
    exact ⟨W, h.lt, h.enc, h.hit, h.rd, h.ra, h.rb, h.num⟩
  · obtain ⟨W, h⟩ := encK1 19 7 (by decide) (by decide) d a b n hr
    exact ⟨W, h.lt, h.enc, h.hit, h.rd, h.ra, h.rb, h.num⟩
  · obtain ⟨W, h⟩ := encK1 19 6 (by decide) (by decide) d a b n hr
    exact ⟨W, h.lt, h.enc, h.hit, h.rd, h.ra, h.rb, h.num⟩
  · obtain ⟨W, h⟩ := encK1 19 4 (by decide) (by decide) d a b n hr
    exact ⟨W, h.lt, h.enc, h.hit, h.rd, h.ra, h.rb, h.num⟩
  · obtain ⟨W, h⟩ := encK1 19 2 (by decide) (by decide) d a b n hr
    exact ⟨W, h.lt, h.enc, h.hit, h.rd, h.ra, h.rb, h.num⟩
  · obtain ⟨W, h⟩ := encK2 19 1 0 (by decide) (by decide) (by decide) d a b n hr
    exact ⟨W, h.lt, h.enc, h.hit, h.rd, h.ra, h.rb, h.num⟩
  · obtain ⟨W, h⟩ := encK2 19 5 0 (by decide) (by decide) (by decide) d a b n hr
    exact ⟨W, h.lt, h.enc, h.hit, h.rd, h.ra, h.rb, h.num⟩
  · obtain ⟨W, h⟩ := encK2 19 5 16 (by decide) (by decide) (by decide) d a b n hr
    exact ⟨W, h.lt, h.enc, h.hit, h.rd, h.ra, h.rb, h.num⟩
  · obtain ⟨W, h⟩ := encK1 3 3 (by decide) (by decide) d a b n hr
    exact ⟨W, h.lt, h.enc, h.hit, h.rd, h.ra, h.rb, h.num⟩
  · obtain ⟨W, h⟩ := encK1 103 0 (by decide) (by decide) d a b n hr
    exact ⟨W, h.lt, h.enc, h.hit, h.rd, h.ra, h.rb, h.num⟩
  · obtain ⟨W, h⟩ := encK3 35 3 (by decide) (by decide) d a b n hr
    exact ⟨W, h.lt, h.enc, h.hit, h.rd, h.ra, h.rb, h.num⟩
  · obtain ⟨W, h⟩ := encK4 99 0 (by decide) (by decide) d a b n hr
    exact ⟨W, h.lt, h.enc, h.hit, h.rd, h.ra, h.rb, h.num⟩
  · obtain ⟨W, h⟩ := encK4 99 1 (by decide) (by decide) d a b n hr
    exact ⟨W, h.lt, h.enc, h.hit, h.rd, h.ra, h.rb, h.num⟩
  · obtain ⟨W, h⟩ := encK4 99 4 (by decide) (by decide) d a b n hr
    exact ⟨W, h.lt, h.enc, h.hit, h.rd, h.ra, h.rb, h.num⟩
  · obtain ⟨W, h⟩ := encK4 99 5 (by decide) (by decide) d a b n hr
    exact ⟨W, h.lt, h.enc, h.hit, h.rd, h.ra, h.rb, h.num⟩
  · obtain ⟨W, h⟩ := encK5 55 (by decide) d a b n hr
    exact ⟨W, h.lt, h.enc, h.hit, h.rd, h.ra, h.rb, h.num⟩
  · obtain ⟨W, h⟩ := encK6 111 (by decide) d a b n hr
    exact ⟨W, h.lt, h.enc, h.hit, h.rd, h.ra, h.rb, h.num⟩
  · obtain ⟨W, h⟩ := encK7 115 (by decide) d a b n hr
    exact ⟨W, h.lt, h.enc, h.hit, h.rd, h.ra, h.rb, h.num⟩
theorem dec_all (o : Nat) (h1 : 1 ≤ o) (h2 : o ≤ 31) (W : Nat) (hlt : W < 4294967296) (hit : bits .and .u32 (W : Int) (T.sh (T.kd o)).fx = obV (T.lo o) (T.md o) (T.hg o)) :
    rightB (regV W 128 (T.sh (T.kd o)).rd) (regV W 32768 (T.sh (T.kd o)).ra) (regV W 1048576 (T.sh (T.kd o)).rb) (gatherV W (T.ph (T.kd o)) (T.sh (T.kd o))) (T.sh (T.kd o)) = true ∧
      encV (T.lo o) (T.md o) (T.hg o) (regV W 128 (T.sh (T.kd o)).rd) (regV W 32768 (T.sh (T.kd o)).ra) (regV W 1048576 (T.sh (T.kd o)).rb) (gatherV W (T.ph (T.kd o)) (T.sh (T.kd o))) (T.sh (T.kd o)) = (W : Int) := by
  rcases lt32 h1 h2 with rfl | rfl | rfl | rfl | rfl | rfl | rfl | rfl | rfl | rfl | rfl | rfl | rfl | rfl | rfl | rfl | rfl | rfl | rfl | rfl | rfl | rfl | rfl | rfl | rfl | rfl | rfl | rfl | rfl | rfl | rfl
  · exact ⟨(decK0 51 0 0 (by decide) (by decide) (by decide) W hlt hit).right, (decK0 51 0 0 (by decide) (by decide) (by decide) W hlt hit).enc⟩
  · exact ⟨(decK0 51 0 32 (by decide) (by decide) (by decide) W hlt hit).right, (decK0 51 0 32 (by decide) (by decide) (by decide) W hlt hit).enc⟩
  · exact ⟨(decK0 51 0 1 (by decide) (by decide) (by decide) W hlt hit).right, (decK0 51 0 1 (by decide) (by decide) (by decide) W hlt hit).enc⟩
  · exact ⟨(decK0 51 4 1 (by decide) (by decide) (by decide) W hlt hit).right, (decK0 51 4 1 (by decide) (by decide) (by decide) W hlt hit).enc⟩
  · exact ⟨(decK0 51 6 1 (by decide) (by decide) (by decide) W hlt hit).right, (decK0 51 6 1 (by decide) (by decide) (by decide) W hlt hit).enc⟩
  · exact ⟨(decK0 51 7 0 (by decide) (by decide) (by decide) W hlt hit).right, (decK0 51 7 0 (by decide) (by decide) (by decide) W hlt hit).enc⟩
  · exact ⟨(decK0 51 6 0 (by decide) (by decide) (by decide) W hlt hit).right, (decK0 51 6 0 (by decide) (by decide) (by decide) W hlt hit).enc⟩
  · exact ⟨(decK0 51 4 0 (by decide) (by decide) (by decide) W hlt hit).right, (decK0 51 4 0 (by decide) (by decide) (by decide) W hlt hit).enc⟩
  · exact ⟨(decK0 51 2 0 (by decide) (by decide) (by decide) W hlt hit).right, (decK0 51 2 0 (by decide) (by decide) (by decide) W hlt hit).enc⟩
  · exact ⟨(decK0 51 3 0 (by decide) (by decide) (by decide) W hlt hit).right, (decK0 51 3 0 (by decide) (by decide) (by decide) W hlt hit).enc⟩
  · exact ⟨(decK0 51 1 0 (by decide) (by decide) (by decide) W hlt hit).right, (decK0 51 1 0 (by decide) (by decide) (by decide) W hlt hit).enc⟩
  · exact ⟨(decK0 51 5 0 (by decide) (by decide) (by decide) W hlt hit).right, (decK0 51 5 0 (by decide) (by decide) (by decide) W hlt hit).enc⟩
  · exact ⟨(decK0 51 5 32 (by decide) (by decide) (by decide) W hlt hit).right, (decK0 51 5 32 (by decide) (by decide) (by decide) W hlt hit).enc⟩
  · exact ⟨(decK1 19 0 (by decide) (by decide) W hlt hit).right, (decK1 19 0 (by decide) (by decide) W hlt hit).enc⟩
  · exact ⟨(decK1 19 7 (by decide) (by decide) W hlt hit).right, (decK1 19 7 (by decide) (by decide) W hlt hit).enc⟩
  · exact ⟨(decK1 19 6 (by decide) (by decide) W hlt hit).right, (decK1 19 6 (by decide) (by decide) W hlt hit).enc⟩
  · exact ⟨(decK1 19 4 (by decide) (by decide) W hlt hit).right, (decK1 19 4 (by decide) (by decide) W hlt hit).enc⟩
  · exact ⟨(decK1 19 2 (by decide) (by decide) W hlt hit).right, (decK1 19 2 (by decide) (by decide) W hlt hit).enc⟩
  · exact ⟨(decK2 19 1 0 (by decide) (by decide) (by decide) W hlt hit).right, (decK2 19 1 0 (by decide) (by decide) (by decide) W hlt hit).enc⟩
  · exact ⟨(decK2 19 5 0 (by decide) (by decide) (by decide) W hlt hit).right, (decK2 19 5 0 (by decide) (by decide) (by decide) W hlt hit).enc⟩
  · exact ⟨(decK2 19 5 16 (by decide) (by decide) (by decide) W hlt hit).right, (decK2 19 5 16 (by decide) (by decide) (by decide) W hlt hit).enc⟩
  · exact ⟨(decK1 3 3 (by decide) (by decide) W hlt hit).right, (decK1 3 3 (by decide) (by decide) W hlt hit).enc⟩
  · exact ⟨(decK1 103 0 (by decide) (by decide) W hlt hit).right, (decK1 103 0 (by decide) (by decide) W hlt hit).enc⟩
  · exact ⟨(decK3 35 3 (by decide) (by decide) W hlt hit).right, (decK3 35 3 (by decide) (by decide) W hlt hit).enc⟩
  · exact ⟨(decK4 99 0 (by decide) (by decide) W hlt hit).right, (decK4 99 0 (by decide) (by decide) W hlt hit).enc⟩
  · exact ⟨(decK4 99 1 (by decide) (by decide) W hlt hit).right, (decK4 99 1 (by decide) (by decide) W hlt hit).enc⟩
  · exact ⟨(decK4 99 4 (by decide) (by decide) W hlt hit).right, (decK4 99 4 (by decide) (by decide) W hlt hit).enc⟩
  · exact ⟨(decK4 99 5 (by decide) (by decide) W hlt hit).right, (decK4 99 5 (by decide) (by decide) W hlt hit).enc⟩
  · exact ⟨(decK5 55 (by decide) W hlt hit).right, (decK5 55 (by decide) W hlt hit).enc⟩
  · exact ⟨(decK6 111 (by decide) W hlt hit).right, (decK6 111 (by decide) W hlt hit).enc⟩
  · exact ⟨(decK7 115 (by decide) W hlt hit).right, (decK7 115 (by decide) W hlt hit).enc⟩

/-- What a word that is of an op's form has. -/
structure Flds (k l m h W : Nat) : Prop where
  low : W % 128 = l
  mid : k ≤ 4 → W / 4096 % 8 = m
  hi0 : k = 0 → W / 33554432 % 128 = h
  hi2 : k = 2 → (W / 67108864 % 64) * 2 = h
theorem fldK0 (l m h : Nat) (hl : l < 128) (hm : m < 8) (hh : h < 128) (W : Nat) (hlt : W < 4294967296) (hit : bits .and .u32 (W : Int) sh0.fx = obV (l : Int) (m : Int) (h : Int)) : Flds 0 l m h W := by
  have e1 : obV (l : Int) (m : Int) (h : Int) = ((l + m * 4096 + h * 33554432 : Nat) : Int) := (obV_eq l m h hl hm hh).1
  replace hit : bits .and .u32 (W : Int) ((4261441663 : Nat) : Int) = _ := hit
  rw [andN W _ hlt (by omega), e1, a_R] at hit
  clear e1
  exact ⟨by omega, fun hk => by omega, fun hk => by omega, fun hk => by omega⟩
theorem fldK1 (l m : Nat) (hl : l < 128) (hm : m < 8) (W : Nat) (hlt : W < 4294967296) (hit : bits .and .u32 (W : Int) sh1.fx = obV (l : Int) (m : Int) ((0 : Nat) : Int)) : Flds 1 l m 0 W := by
  have e1 : obV (l : Int) (m : Int) ((0 : Nat) : Int) = ((l + m * 4096 : Nat) : Int) := (ob2 l m hl hm).1
  replace hit : bits .and .u32 (W : Int) ((28799 : Nat) : Int) = _ := hit
  rw [andN W _ hlt (by omega), e1, a_lm] at hit
  clear e1
  exact ⟨by omega, fun hk => by omega, fun hk => by omega, fun hk => by omega⟩
theorem fldK2 (l m q : Nat) (hl : l < 128) (hm : m < 8) (hq : q < 64) (W : Nat) (hlt : W < 4294967296) (hit : bits .and .u32 (W : Int) sh2.fx = obV (l : Int) (m : Int) ((2 * q : Nat) : Int)) : Flds 2 l m (2 * q) W := by
  have e1 : obV (l : Int) (m : Int) ((2 * q : Nat) : Int) = ((l + m * 4096 + q * 67108864 : Nat) : Int) := (obH l m q hl hm hq).1
  replace hit : bits .and .u32 (W : Int) ((4227887231 : Nat) : Int) = _ := hit
  rw [andN W _ hlt (by omega), e1, a_H] at hit
  clear e1
  exact ⟨by omega, fun hk => by omega, fun hk => by omega, fun hk => by omega⟩
theorem fldK3 (l m : Nat) (hl : l < 128) (hm : m < 8) (W : Nat) (hlt : W < 4294967296) (hit : bits .and .u32 (W : Int) sh3.fx = obV (l : Int) (m : Int) ((0 : Nat) : Int)) : Flds 3 l m 0 W := by
  have e1 : obV (l : Int) (m : Int) ((0 : Nat) : Int) = ((l + m * 4096 : Nat) : Int) := (ob2 l m hl hm).1
  replace hit : bits .and .u32 (W : Int) ((28799 : Nat) : Int) = _ := hit
  rw [andN W _ hlt (by omega), e1, a_lm] at hit
  clear e1
  exact ⟨by omega, fun hk => by omega, fun hk => by omega, fun hk => by omega⟩
theorem fldK4 (l m : Nat) (hl : l < 128) (hm : m < 8) (W : Nat) (hlt : W < 4294967296) (hit : bits .and .u32 (W : Int) sh4.fx = obV (l : Int) (m : Int) ((0 : Nat) : Int)) : Flds 4 l m 0 W := by
  have e1 : obV (l : Int) (m : Int) ((0 : Nat) : Int) = ((l + m * 4096 : Nat) : Int) := (ob2 l m hl hm).1
  replace hit : bits .and .u32 (W : Int) ((28799 : Nat) : Int) = _ := hit
  rw [andN W _ hlt (by omega), e1, a_lm] at hit
  clear e1
  exact ⟨by omega, fun hk => by omega, fun hk => by omega, fun hk => by omega⟩
theorem fldK5 (l : Nat) (hl : l < 128) (W : Nat) (hlt : W < 4294967296) (hit : bits .and .u32 (W : Int) sh5.fx = obV (l : Int) ((0 : Nat) : Int) ((0 : Nat) : Int)) : Flds 5 l 0 0 W := by
  have e1 : obV (l : Int) ((0 : Nat) : Int) ((0 : Nat) : Int) = ((l : Nat) : Int) := (ob1 l hl).1
  replace hit : bits .and .u32 (W : Int) ((127 : Nat) : Int) = _ := hit
  rw [andN W _ hlt (by omega), e1, a_low] at hit
  clear e1
  exact ⟨by omega, fun hk => by omega, fun hk => by omega, fun hk => by omega⟩
theorem fldK6 (l : Nat) (hl : l < 128) (W : Nat) (hlt : W < 4294967296) (hit : bits .and .u32 (W : Int) sh6.fx = obV (l : Int) ((0 : Nat) : Int) ((0 : Nat) : Int)) : Flds 6 l 0 0 W := by
  have e1 : obV (l : Int) ((0 : Nat) : Int) ((0 : Nat) : Int) = ((l : Nat) : Int) := (ob1 l hl).1
  replace hit : bits .and .u32 (W : Int) ((127 : Nat) : Int) = _ := hit
  rw [andN W _ hlt (by omega), e1, a_low] at hit
  clear e1
  exact ⟨by omega, fun hk => by omega, fun hk => by omega, fun hk => by omega⟩
theorem fldK7 (l : Nat) (hl : l < 128) (W : Nat) (hlt : W < 4294967296) (hit : bits .and .u32 (W : Int) sh7.fx = obV (l : Int) ((0 : Nat) : Int) ((0 : Nat) : Int)) : Flds 7 l 0 0 W := by
  have e1 : obV (l : Int) ((0 : Nat) : Int) ((0 : Nat) : Int) = ((l : Nat) : Int) := (ob1 l hl).1
  replace hit : bits .and .u32 (W : Int) ((4294967295 : Nat) : Int) = _ := hit
  rw [andN W _ hlt (by omega), e1, a_E W hlt] at hit
  clear e1
  exact ⟨by omega, fun hk => by omega, fun hk => by omega, fun hk => by omega⟩
def loN (o : Nat) : Nat := (T.lo o).toNat
def mdN (o : Nat) : Nat := (T.md o).toNat
def hgN (o : Nat) : Nat := (T.hg o).toNat
theorem fld_all (o : Nat) (h1 : 1 ≤ o) (h2 : o ≤ 31) (W : Nat) (hlt : W < 4294967296) (hit : bits .and .u32 (W : Int) (T.sh (T.kd o)).fx = obV (T.lo o) (T.md o) (T.hg o)) : Flds (T.kd o) (loN o) (mdN o) (hgN o) W := by
  rcases lt32 h1 h2 with rfl | rfl | rfl | rfl | rfl | rfl | rfl | rfl | rfl | rfl | rfl | rfl | rfl | rfl | rfl | rfl | rfl | rfl | rfl | rfl | rfl | rfl | rfl | rfl | rfl | rfl | rfl | rfl | rfl | rfl | rfl
  · exact fldK0 51 0 0 (by decide) (by decide) (by decide) W hlt hit
  · exact fldK0 51 0 32 (by decide) (by decide) (by decide) W hlt hit
  · exact fldK0 51 0 1 (by decide) (by decide) (by decide) W hlt hit
  · exact fldK0 51 4 1 (by decide) (by decide) (by decide) W hlt hit
  · exact fldK0 51 6 1 (by decide) (by decide) (by decide) W hlt hit
  · exact fldK0 51 7 0 (by decide) (by decide) (by decide) W hlt hit
  · exact fldK0 51 6 0 (by decide) (by decide) (by decide) W hlt hit
  · exact fldK0 51 4 0 (by decide) (by decide) (by decide) W hlt hit
  · exact fldK0 51 2 0 (by decide) (by decide) (by decide) W hlt hit
  · exact fldK0 51 3 0 (by decide) (by decide) (by decide) W hlt hit
  · exact fldK0 51 1 0 (by decide) (by decide) (by decide) W hlt hit
  · exact fldK0 51 5 0 (by decide) (by decide) (by decide) W hlt hit
  · exact fldK0 51 5 32 (by decide) (by decide) (by decide) W hlt hit
  · exact fldK1 19 0 (by decide) (by decide) W hlt hit
  · exact fldK1 19 7 (by decide) (by decide) W hlt hit
  · exact fldK1 19 6 (by decide) (by decide) W hlt hit
  · exact fldK1 19 4 (by decide) (by decide) W hlt hit
  · exact fldK1 19 2 (by decide) (by decide) W hlt hit
  · exact fldK2 19 1 0 (by decide) (by decide) (by decide) W hlt hit
  · exact fldK2 19 5 0 (by decide) (by decide) (by decide) W hlt hit
  · exact fldK2 19 5 16 (by decide) (by decide) (by decide) W hlt hit
  · exact fldK1 3 3 (by decide) (by decide) W hlt hit
  · exact fldK1 103 0 (by decide) (by decide) W hlt hit
  · exact fldK3 35 3 (by decide) (by decide) W hlt hit
  · exact fldK4 99 0 (by decide) (by decide) W hlt hit
  · exact fldK4 99 1 (by decide) (by decide) W hlt hit
  · exact fldK4 99 4 (by decide) (by decide) W hlt hit
  · exact fldK4 99 5 (by decide) (by decide) W hlt hit
  · exact fldK5 55 (by decide) W hlt hit
  · exact fldK6 111 (by decide) W hlt hit
  · exact fldK7 115 (by decide) W hlt hit
theorem uniq32 : ∀ j : Fin 32, ∀ o : Fin 32, 1 ≤ j.val → 1 ≤ o.val → loN j = loN o → (T.kd j ≤ 4 → T.kd o ≤ 4 → mdN j = mdN o) → (T.kd j = 0 → T.kd o = 0 → hgN j = hgN o) → (T.kd j = 2 → T.kd o = 2 → hgN j = hgN o) → j = o := by decide +kernel
theorem hit_one (j o : Nat) (hj1 : 1 ≤ j) (hj2 : j ≤ 31) (ho1 : 1 ≤ o) (ho2 : o ≤ 31) (W : Nat) (hlt : W < 4294967296)
    (h1 : bits .and .u32 (W : Int) (T.sh (T.kd j)).fx = obV (T.lo j) (T.md j) (T.hg j)) (h2 : bits .and .u32 (W : Int) (T.sh (T.kd o)).fx = obV (T.lo o) (T.md o) (T.hg o)) : j = o := by
  have f1 := fld_all j hj1 hj2 W hlt h1
  have f2 := fld_all o ho1 ho2 W hlt h2
  have := uniq32 ⟨j, by omega⟩ ⟨o, by omega⟩ hj1 ho1 (f1.low.symm.trans f2.low) (fun a b => (f1.mid a).symm.trans (f2.mid b)) (fun a b => (f1.hi0 a).symm.trans (f2.hi0 b)) (fun a b => (f1.hi2 a).symm.trans (f2.hi2 b))
  exact congrArg Fin.val this

theorem hitB_iff (W : Int) (o : Nat) : hitB T W o = true ↔ bits .and .u32 W (T.sh (T.kd o)).fx = obV (T.lo o) (T.md o) (T.hg o) := by
  unfold hitB; exact beq_iff_eq
end Go.Proofs.YtchankbdfkgdiaaDoor
