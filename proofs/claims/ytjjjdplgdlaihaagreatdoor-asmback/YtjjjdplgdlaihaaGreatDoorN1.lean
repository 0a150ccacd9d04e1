/- Lines, instructions as text, texts that are read: as plain functions. -/
import Derived.Test.YtjjjdplgdlaihaaGreatDoorN0
namespace Go.Proofs.YtjjjdplgdlaihaaGreatDoor
open Go

/-- The ops' names and parts. -/
def opsL : List (By × By) := [([], []), ([97, 100, 100], [100, 97, 98]), ([115, 117, 98], [100, 97, 98]), ([109, 117, 108], [100, 97, 98]), ([100, 105, 118], [100, 97, 98]), ([114, 101, 109], [100, 97, 98]), ([97, 110, 100], [100, 97, 98]), ([111, 114], [100, 97, 98]), ([120, 111, 114], [100, 97, 98]), ([115, 108, 116], [100, 97, 98]), ([115, 108, 116, 117], [100, 97, 98]), ([115, 108, 108], [100, 97, 98]), ([115, 114, 108], [100, 97, 98]), ([115, 114, 97], [100, 97, 98]), ([97, 100, 100, 105], [100, 97, 110]), ([97, 110, 100, 105], [100, 97, 110]), ([111, 114, 105], [100, 97, 110]), ([120, 111, 114, 105], [100, 97, 110]), ([115, 108, 116, 105], [100, 97, 110]), ([115, 108, 108, 105], [100, 97, 110]), ([115, 114, 108, 105], [100, 97, 110]), ([115, 114, 97, 105], [100, 97, 110]), ([108, 100], [100, 40]), ([106, 97, 108, 114], [100, 40]), ([115, 100], [98, 40]), ([98, 101, 113], [97, 98, 58]), ([98, 110, 101], [97, 98, 58]), ([98, 108, 116], [97, 98, 58]), ([98, 103, 101], [97, 98, 58]), ([108, 117, 105], [100, 110]), ([106, 97, 108], [100, 58]), ([101, 99, 97, 108, 108], [])]

/-- An instruction as it is read: op, registers, N; the PLACE that it leads to. -/
structure Dr where
  o : Int
  d : Int
  a : Int
  b : Int
  n : Int
  pl : By

def isL (c : UInt8) : Bool := decide (97 ≤ c.toNat) && decide (c.toNat ≤ 122)
def okC (c : UInt8) : Bool := isL c || (decide (48 ≤ c.toNat) && decide (c.toNat ≤ 57)) || c.toNat == 95 || c.toNat == 46
/-- A PLACE's name. -/
def nameV (s : By) : Bool := decide (1 ≤ s.length) && decide (s.length ≤ 24) && (match s with | [] => false | c :: _ => isL c) && s.all okC

/-- What stands ahead of the first such sign, and behind it, if there is one. -/
def cutC (c : UInt8) : By → By × By × Bool
  | [] => ([], [], false)
  | x :: t => if x = c then ([], t, true) else (x :: (cutC c t).1, (cutC c t).2.1, (cutC c t).2.2)

/-- A number, and a register in brackets. -/
def memV (n bh : By) (d : Dr) : Option Dr :=
  if bh.getLast? = some 41 then (match numV n with | none => none | some v => (rgsV bh.dropLast).map fun r => { d with n := v, a := r }) else none
theorem memV_no {n bh : By} {d : Dr} (h : bh.getLast? ≠ some 41) : memV n bh d = none := by unfold memV; rw [if_neg h]
theorem memV_none {n bh : By} {d : Dr} (h : bh.getLast? = some 41) (hv : numV n = none) : memV n bh d = none := by unfold memV; rw [if_pos h, hv]
theorem memV_some {n bh : By} {d : Dr} {v : Int} (h : bh.getLast? = some 41) (hv : numV n = some v) : memV n bh d = (rgsV bh.dropLast).map fun r => { d with n := v, a := r } := by unfold memV; rw [if_pos h, hv]

/-- A part is read. -/
def takeV (k : UInt8) (p : By) (d : Dr) : Option Dr :=
  if k = 100 then (rgsV p).map fun r => { d with d := r }
  else if k = 97 then (rgsV p).map fun r => { d with a := r }
  else if k = 98 then (rgsV p).map fun r => { d with b := r }
  else if k = 40 then
    memV (cutC 40 p).1 (cutC 40 p).2.1 d
  else if k = 58 ∧ nameV p = true then some { d with pl := p }
  else (numV p).map fun n => { d with n := n }

def partsV : By → By → Dr → Option Dr
  | [], rest, d => if rest = [] then some d else none
  | k :: ks, rest, d =>
    if (cutC 44 rest).2.2 = !ks.isEmpty then
      match takeV k (cutC 44 rest).1 d with
      | none => none
      | some d' => partsV ks (cutC 44 rest).2.1 d'
    else none

/-- The op that is called so; 0: none. -/
def opV (name : By) : Nat := ((List.range 32).find? fun i => decide (1 ≤ i) && (opsL.getD i ([], [])).1 == name).getD 0

def trimL (s : By) : By := s.dropWhile (· == 32)
def trimV (s : By) : By := ((s.reverse.dropWhile (· == 32)).reverse).dropWhile (· == 32)

/-- A line is read. -/
def readV (line : By) : Option Dr :=
  let o := opV (cutC 32 line).1
  if o = 0 then none else partsV (opsL.getD o ([], [])).2 (trimL (cutC 32 line).2.1) ⟨o, 0, 0, 0, 0, []⟩

/-- How a part is written. -/
def prPart (d : Dr) (k : UInt8) : By :=
  if k = 100 then 120 :: Lib.itoa d.d
  else if k = 97 then 120 :: Lib.itoa d.a
  else if k = 98 then 120 :: Lib.itoa d.b
  else if k = 40 then Lib.itoa d.n ++ [40, 120] ++ Lib.itoa d.a ++ [41]
  else Lib.itoa d.n
def prParts (d : Dr) : By → Bool → By
  | [], _ => []
  | k :: ks, first => (if first then 32 else 44) :: (prPart d k ++ prParts d ks false)
def prV (d : Dr) : By := (opsL.getD d.o.toNat ([], [])).1 ++ prParts d (opsL.getD d.o.toNat ([], [])).2 true

theorem cutC_none (c : UInt8) : ∀ s : By, c ∉ s → cutC c s = (s, [], false)
  | [], _ => rfl
  | x :: t, h => by
    simp only [List.mem_cons, not_or] at h
    rw [cutC, if_neg (Ne.symm h.1), cutC_none c t h.2]
theorem cutC_some (c : UInt8) : ∀ s t : By, c ∉ s → cutC c (s ++ c :: t) = (s, t, true)
  | [], t, _ => by simp [cutC]
  | x :: s, t, h => by
    simp only [List.mem_cons, not_or] at h
    rw [List.cons_append, cutC, if_neg (Ne.symm h.1), cutC_some c s t h.2]

theorem itoa_no (n : Int) (c : UInt8) (h1 : c.toNat ≠ 45) (h2 : c.toNat < 48 ∨ 57 < c.toNat) : c ∉ Lib.itoa n := fun h => by
  have := itoa_sign n c h
  omega

/-- What a part is written as has no comma. -/
theorem prPart_no (d : Dr) (k : UInt8) (c : UInt8) (h : c = 44 ∨ c = 10 ∨ c = 32 ∨ c = 58) : c ∉ prPart d k := by
  have hi : ∀ n, c ∉ Lib.itoa n := fun n => itoa_no n c (by rcases h with rfl | rfl | rfl | rfl <;> decide) (by rcases h with rfl | rfl | rfl | rfl <;> decide)
  have h1 : c ≠ 120 := by rcases h with rfl | rfl | rfl | rfl <;> decide
  have h2 : c ≠ 40 := by rcases h with rfl | rfl | rfl | rfl <;> decide
  have h3 : c ≠ 41 := by rcases h with rfl | rfl | rfl | rfl <;> decide
  unfold prPart
  split
  · simp [h1, hi]
  split
  · simp [h1, hi]
  split
  · simp [h1, hi]
  split
  · simp [h1, h2, h3, hi]
  · exact hi _

/-- The parts of a draft that its op does not name are 0. -/
structure Okd (d : Dr) : Prop where
  d0 : 0 ≤ d.d ∧ d.d < 32
  a0 : 0 ≤ d.a ∧ d.a < 32
  b0 : 0 ≤ d.b ∧ d.b < 32
  n0 : -9223372036854775808 ≤ d.n ∧ d.n ≤ 9223372036854775807

theorem take_d (d e : Dr) (h : Okd d) : takeV 100 (prPart d 100) e = some { e with d := d.d } := by
  have e1 : prPart d 100 = 120 :: Lib.itoa d.d := by unfold prPart; rw [if_pos rfl]
  unfold takeV; rw [if_pos rfl, e1, rgsV_itoa _ h.d0.1 h.d0.2]; rfl
theorem take_a (d e : Dr) (h : Okd d) : takeV 97 (prPart d 97) e = some { e with a := d.a } := by
  have e1 : prPart d 97 = 120 :: Lib.itoa d.a := by unfold prPart; rw [if_neg (by decide), if_pos rfl]
  unfold takeV; rw [if_neg (by decide), if_pos rfl, e1, rgsV_itoa _ h.a0.1 h.a0.2]; rfl
theorem take_b (d e : Dr) (h : Okd d) : takeV 98 (prPart d 98) e = some { e with b := d.b } := by
  have e1 : prPart d 98 = 120 :: Lib.itoa d.b := by unfold prPart; rw [if_neg (by decide), if_neg (by decide), if_pos rfl]
  unfold takeV; rw [if_neg (by decide), if_neg (by decide), if_pos rfl, e1, rgsV_itoa _ h.b0.1 h.b0.2]; rfl
theorem take_n (d e : Dr) (h : Okd d) : takeV 110 (prPart d 110) e = some { e with n := d.n } := by
  have e1 : prPart d 110 = Lib.itoa d.n := by unfold prPart; rw [if_neg (by decide), if_neg (by decide), if_neg (by decide), if_neg (by decide)]
  unfold takeV; rw [if_neg (by decide), if_neg (by decide), if_neg (by decide), if_neg (by decide), if_neg (by simp), e1, numV_itoa _ h.n0.1 h.n0.2]; rfl
theorem itoa_noname (n : Int) : nameV (Lib.itoa n) = false := by
  cases h : Lib.itoa n with
  | nil => exact absurd h (itoa_ne n)
  | cons c t =>
    have hc := itoa_sign n c (by rw [h]; simp)
    have hl : isL c = false := by unfold isL; simp; omega
    simp [nameV, hl]
theorem take_p (d e : Dr) (h : Okd d) : takeV 58 (prPart d 58) e = some { e with n := d.n } := by
  have e1 : prPart d 58 = Lib.itoa d.n := by unfold prPart; rw [if_neg (by decide), if_neg (by decide), if_neg (by decide), if_neg (by decide)]
  unfold takeV; rw [if_neg (by decide), if_neg (by decide), if_neg (by decide), if_neg (by decide), e1, if_neg (by rw [itoa_noname]; simp), numV_itoa _ h.n0.1 h.n0.2]; rfl
theorem take_m (d e : Dr) (h : Okd d) : takeV 40 (prPart d 40) e = some { e with n := d.n, a := d.a } := by
  have e1 : prPart d 40 = Lib.itoa d.n ++ 40 :: (120 :: Lib.itoa d.a ++ [41]) := by unfold prPart; rw [if_neg (by decide), if_neg (by decide), if_neg (by decide), if_pos rfl]; simp
  have e2 : cutC 40 (prPart d 40) = (Lib.itoa d.n, 120 :: Lib.itoa d.a ++ [41], true) := by rw [e1]; exact cutC_some _ _ _ (itoa_no _ _ (by decide) (by decide))
  have e3 : (120 :: Lib.itoa d.a ++ [41]).getLast? = some 41 := by rw [List.getLast?_append]; rfl
  have e4 : (120 :: Lib.itoa d.a ++ [41]).dropLast = 120 :: Lib.itoa d.a := List.dropLast_concat
  unfold takeV
  rw [if_neg (by decide), if_neg (by decide), if_neg (by decide), if_pos rfl, e2]
  dsimp only
  rw [memV_some e3 (numV_itoa _ h.n0.1 h.n0.2), e4, rgsV_itoa _ h.a0.1 h.a0.2]
  rfl
end Go.Proofs.YtjjjdplgdlaihaaGreatDoor
