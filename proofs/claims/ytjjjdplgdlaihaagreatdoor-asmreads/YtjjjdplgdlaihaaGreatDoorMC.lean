/- Numbers as text: what is written is read as it was. Lines, instructions as text, texts that are read: as plain functions. What is written is read as it was: a line. Whole texts: lines, places, what they come to. A place is how far it is. An instruction's parts, read one by one, are it. -/
import Derived.Lib.ParseIntB
import Derived.Lib.ItoaNum
import Derived.Lib.ItoaMem
import Derived.Lib.IndexMore
import Derived.KernelRfl
namespace Go.Proofs.YtjjjdplgdlaihaaGreatDoor
open Go

abbrev By := List UInt8

theorem dig_nat (u : Nat) (h : u < 10) : (UInt8.ofNat (48 + u)).toNat = 48 + u := by simp [UInt8.toNat_ofNat']; omega

/-- Digits behind digits. -/
theorem parseM_append (M : Nat) : ∀ (l r : By) (acc u : Nat), Lib.parseUintM M acc l = .ok u → Lib.parseUintM M acc (l ++ r) = Lib.parseUintM M u r
  | [], r, acc, u, h => by simp only [Lib.parseUintM] at h; injection h with h; subst h; rfl
  | c :: l, r, acc, u, h => by
    simp only [Lib.parseUintM, List.cons_append] at h ⊢
    split at h
    · rename_i hc
      rw [if_pos hc]
      split at h
      · cases h
      · rename_i h1
        rw [if_neg h1]
        split at h
        · cases h
        · rename_i h2
          rw [if_neg h2]
          exact parseM_append M l r _ u h
    · cases h

theorem parseM_dec (M : Nat) (hM : M ≤ 18446744073709551615) : ∀ (k u : Nat), u < k → u ≤ M → Lib.parseUintM M 0 (Lib.decDigits u) = .ok u
  | 0, u, h, _ => by omega
  | k + 1, u, h, hu => by
    rw [Lib.decDigits]
    split
    · rename_i h10
      simp only [Lib.parseUintM, dig_nat u h10]
      rw [if_pos (by omega), if_neg (by omega), if_neg (by omega)]
      simp
    · rename_i h10
      rw [parseM_append M _ _ 0 (u / 10) (parseM_dec M hM k (u / 10) (by omega) (by omega))]
      simp only [Lib.parseUintM, dig_nat (u % 10) (Nat.mod_lt _ (by omega))]
      rw [if_pos (by omega), if_neg (by omega), if_neg (by omega)]
      congr 1
      omega

theorem dec_ne (u : Nat) : Lib.decDigits u ≠ [] := by
  rw [Lib.decDigits]
  split <;> simp

/-- Every sign of a numeral is a digit. -/
theorem dec_digit : ∀ (k u : Nat), u < k → ∀ c ∈ Lib.decDigits u, 48 ≤ c.toNat ∧ c.toNat ≤ 57
  | 0, u, h, _, _ => by omega
  | k + 1, u, h, c, hc => by
    rw [Lib.decDigits] at hc
    split at hc
    · rename_i h10
      simp only [List.mem_singleton] at hc
      subst hc
      rw [dig_nat u h10]
      omega
    · simp only [List.mem_append, List.mem_singleton] at hc
      rcases hc with hc | hc
      · exact dec_digit k (u / 10) (by omega) c hc
      · subst hc
        rw [dig_nat (u % 10) (Nat.mod_lt _ (by omega))]
        omega

/-- A number is read as it was written. -/
theorem parse_itoa (n : Int) (h0 : -9223372036854775808 ≤ n) (h1 : n ≤ 9223372036854775807) : Lib.parseIntB 64 (Lib.itoa n) = .ok n := by
  unfold Lib.itoa
  by_cases hn : n < 0
  · rw [if_pos hn]
    have e : Lib.parseUintB 64 (Lib.decDigits n.natAbs) = .ok n.natAbs := by
      unfold Lib.parseUintB
      rw [if_neg (dec_ne _)]
      exact parseM_dec _ (by decide) (n.natAbs + 1) _ (by omega) (by omega)
    simp only [Lib.parseIntB]
    rw [if_pos (by decide), e]
    dsimp only
    have h45 : (45 : UInt8).toNat = 45 := rfl
    simp only [h45]
    rw [if_neg (by simp), if_neg (by simp; omega)]
    simp
    omega
  · rw [if_neg hn]
    have e : Lib.parseUintB 64 (Lib.decDigits n.toNat) = .ok n.toNat := by
      unfold Lib.parseUintB
      rw [if_neg (dec_ne _)]
      exact parseM_dec _ (by decide) (n.toNat + 1) _ (by omega) (by omega)
    cases hd : Lib.decDigits n.toNat with
    | nil => exact absurd hd (dec_ne _)
    | cons c r =>
      have hc := dec_digit (n.toNat + 1) n.toNat (by omega) c (by rw [hd]; simp)
      simp only [Lib.parseIntB]
      rw [if_neg (by omega), ← hd, e]
      dsimp only
      rw [if_neg (by omega), if_neg (by omega), if_neg (by omega)]
      congr 1
      omega

theorem itoa_sign (n : Int) : ∀ c ∈ Lib.itoa n, (48 ≤ c.toNat ∧ c.toNat ≤ 57) ∨ c.toNat = 45 := by
  intro c hc
  unfold Lib.itoa at hc
  split at hc
  · simp only [List.mem_cons] at hc
    rcases hc with rfl | hc
    · exact .inr rfl
    · exact .inl (dec_digit _ _ (Nat.lt_succ_self _) c hc)
  · exact .inl (dec_digit _ _ (Nat.lt_succ_self _) c hc)
theorem itoa_ne (n : Int) : Lib.itoa n ≠ [] := by
  unfold Lib.itoa
  split
  · simp
  · exact dec_ne _

/-- A number of 64 bits, as it must be written. -/
def numV (s : By) : Option Int :=
  match Lib.parseIntB 64 s with
  | .ok v => if Lib.itoa v = s then some v else none
  | _ => none
theorem numV_itoa (n : Int) (h0 : -9223372036854775808 ≤ n) (h1 : n ≤ 9223372036854775807) : numV (Lib.itoa n) = some n := by
  unfold numV; rw [parse_itoa n h0 h1]; simp

/-- A register. -/
def rgsV (s : By) : Option Int :=
  match s with
  | [] => none
  | c :: t => if c = 120 then (match numV t with | some n => if 0 ≤ n ∧ n < 32 then some n else none | none => none) else none
theorem rgsV_itoa (n : Int) (h0 : 0 ≤ n) (h1 : n < 32) : rgsV (120 :: Lib.itoa n) = some n := by
  unfold rgsV
  dsimp only
  rw [if_pos rfl, numV_itoa n (by omega) (by omega)]
  dsimp only
  rw [if_pos ⟨h0, h1⟩]
end Go.Proofs.YtjjjdplgdlaihaaGreatDoor

namespace Go.Proofs.YtjjjdplgdlaihaaGreatDoor
open Go

/-- The ops' names and parts. -/
def opsL : List (By × By) := [([], []), ([97, 100, 100], [100, 97, 98]), ([115, 117, 98], [100, 97, 98]), ([109, 117, 108], [100, 97, 98]), ([100, 105, 118], [100, 97, 98]), ([114, 101, 109], [100, 97, 98]), ([97, 110, 100], [100, 97, 98]), ([111, 114], [100, 97, 98]), ([120, 111, 114], [100, 97, 98]), ([115, 108, 116], [100, 97, 98]), ([115, 108, 116, 117], [100, 97, 98]), ([115, 108, 108], [100, 97, 98]), ([115, 114, 108], [100, 97, 98]), ([115, 114, 97], [100, 97, 98]), ([97, 100, 100, 105], [100, 97, 110]), ([97, 110, 100, 105], [100, 97, 110]), ([111, 114, 105], [100, 97, 110]), ([120, 111, 114, 105], [100, 97, 110]), ([115, 108, 116, 105], [100, 97, 110]), ([115, 108, 108, 105], [100, 97, 110]), ([115, 114, 108, 105], [100, 97, 110]), ([115, 114, 97, 105], [100, 97, 110]), ([108, 100], [100, 40]), ([106, 97, 108, 114], [100, 40]), ([115, 100], [98, 40]), ([98, 101, 113], [97, 98, 58]), ([98, 110, 101], [97, 98, 58]), ([98, 108, 116], [97, 98, 58]), ([98, 103, 101], [97, 98, 58]), ([108, 117, 105], [100, 110]), ([106, 97, 108], [100, 58]), ([101, 99, 97, 108, 108], [])]

/-- An instruction as it is read: op, registers, N; the PLACE that it leads to. -/
structure Dr where
  o : Int
  d : Int
  a : Int
  b : Int
  n : Int
  pl : By

def isL (c : UInt8) : Bool := decide (97 ≤ c.toNat) && decide (c.toNat ≤ 122)
def okC (c : UInt8) : Bool := isL c || (decide (48 ≤ c.toNat) && decide (c.toNat ≤ 57)) || c.toNat == 95 || c.toNat == 46
/-- A PLACE's name. -/
def nameV (s : By) : Bool := decide (1 ≤ s.length) && decide (s.length ≤ 24) && (match s with | [] => false | c :: _ => isL c) && s.all okC

/-- What stands ahead of the first such sign, and behind it, if there is one. -/
def cutC (c : UInt8) : By → By × By × Bool
  | [] => ([], [], false)
  | x :: t => if x = c then ([], t, true) else (x :: (cutC c t).1, (cutC c t).2.1, (cutC c t).2.2)

/-- A number, and a register in brackets. -/
def memV (n bh : By) (d : Dr) : Option Dr :=
  if bh.getLast? = some 41 then (match numV n with | none => none | some v => (rgsV bh.dropLast).map fun r => { d with n := v, a := r }) else none
theorem memV_no {n bh : By} {d : Dr} (h : bh.getLast? ≠ some 41) : memV n bh d = none := by unfold memV; rw [if_neg h]
theorem memV_none {n bh : By} {d : Dr} (h : bh.getLast? = some 41) (hv : numV n = none) : memV n bh d = none := by unfold memV; rw [if_pos h, hv]
theorem memV_some {n bh : By} {d : Dr} {v : Int} (h : bh.getLast? = some 41) (hv : numV n = some v) : memV n bh d = (rgsV bh.dropLast).map fun r => { d with n := v, a := r } := by unfold memV; rw [if_pos h, hv]

/-- A part is read. -/
def takeV (k : UInt8) (p : By) (d : Dr) : Option Dr :=
  if k = 100 then (rgsV p).map fun r => { d with d := r }
  else if k = 97 then (rgsV p).map fun r => { d with a := r }
  else if k = 98 then (rgsV p).map fun r => { d with b := r }
  else if k = 40 then
    memV (cutC 40 p).1 (cutC 40 p).2.1 d
  else if k = 58 ∧ nameV p = true then some { d with pl := p }
  else (numV p).map fun n => { d with n := n }

def partsV : By → By → Dr → Option Dr
  | [], rest, d => if rest = [] then some d else none
  | k :: ks, rest, d =>
    if (cutC 44 rest).2.2 = !ks.isEmpty then
      match takeV k (cutC 44 rest).1 d with
      | none => none
      | some d' => partsV ks (cutC 44 rest).2.1 d'
    else none

/-- The op that is called so; 0: none. -/
def opV (name : By) : Nat := ((List.range 32).find? fun i => decide (1 ≤ i) && (opsL.getD i ([], [])).1 == name).getD 0

def trimL (s : By) : By := s.dropWhile (· == 32)
def trimV (s : By) : By := ((s.reverse.dropWhile (· == 32)).reverse).dropWhile (· == 32)

/-- A line is read. -/
def readV (line : By) : Option Dr :=
  let o := opV (cutC 32 line).1
  if o = 0 then none else partsV (opsL.getD o ([], [])).2 (trimL (cutC 32 line).2.1) ⟨o, 0, 0, 0, 0, []⟩

/-- How a part is written. -/
def prPart (d : Dr) (k : UInt8) : By :=
  if k = 100 then 120 :: Lib.itoa d.d
  else if k = 97 then 120 :: Lib.itoa d.a
  else if k = 98 then 120 :: Lib.itoa d.b
  else if k = 40 then Lib.itoa d.n ++ [40, 120] ++ Lib.itoa d.a ++ [41]
  else Lib.itoa d.n
def prParts (d : Dr) : By → Bool → By
  | [], _ => []
  | k :: ks, first => (if first then 32 else 44) :: (prPart d k ++ prParts d ks false)
def prV (d : Dr) : By := (opsL.getD d.o.toNat ([], [])).1 ++ prParts d (opsL.getD d.o.toNat ([], [])).2 true

theorem cutC_none (c : UInt8) : ∀ s : By, c ∉ s → cutC c s = (s, [], false)
  | [], _ => rfl
  | x :: t, h => by
    simp only [List.mem_cons, not_or] at h
    rw [cutC, if_neg (Ne.symm h.1), cutC_none c t h.2]
theorem cutC_some (c : UInt8) : ∀ s t : By, c ∉ s → cutC c (s ++ c :: t) = (s, t, true)
  | [], t, _ => by simp [cutC]
  | x :: s, t, h => by
    simp only [List.mem_cons, not_or] at h
    rw [List.cons_append, cutC, if_neg (Ne.symm h.1), cutC_some c s t h.2]

theorem itoa_no (n : Int) (c : UInt8) (h1 : c.toNat ≠ 45) (h2 : c.toNat < 48 ∨ 57 < c.toNat) : c ∉ Lib.itoa n := fun h => by
  have := itoa_sign n c h
  omega

/-- What a part is written as has no comma. -/
theorem prPart_no (d : Dr) (k : UInt8) (c : UInt8) (h : c = 44 ∨ c = 10 ∨ c = 32 ∨ c = 58) : c ∉ prPart d k := by
  have hi : ∀ n, c ∉ Lib.itoa n := fun n => itoa_no n c (by rcases h with rfl | rfl | rfl | rfl <;> decide) (by rcases h with rfl | rfl | rfl | rfl <;> decide)
  have h1 : c ≠ 120 := by rcases h with rfl | rfl | rfl | rfl <;> decide
  have h2 : c ≠ 40 := by rcases h with rfl | rfl | rfl | rfl <;> decide
  have h3 : c ≠ 41 := by rcases h with rfl | rfl | rfl | rfl <;> decide
  unfold prPart
  split
  · simp [h1, hi]
  split
  · simp [h1, hi]
  split
  · simp [h1, hi]
  split
  · simp [h1, h2, h3, hi]
  · exact hi _

/-- The parts of a draft that its op does not name are 0. -/
structure Okd (d : Dr) : Prop where
  d0 : 0 ≤ d.d ∧ d.d < 32
  a0 : 0 ≤ d.a ∧ d.a < 32
  b0 : 0 ≤ d.b ∧ d.b < 32
  n0 : -9223372036854775808 ≤ d.n ∧ d.n ≤ 9223372036854775807

theorem take_d (d e : Dr) (h : Okd d) : takeV 100 (prPart d 100) e = some { e with d := d.d } := by
  have e1 : prPart d 100 = 120 :: Lib.itoa d.d := by unfold prPart; rw [if_pos rfl]
  unfold takeV; rw [if_pos rfl, e1, rgsV_itoa _ h.d0.1 h.d0.2]; rfl
theorem take_a (d e : Dr) (h : Okd d) : takeV 97 (prPart d 97) e = some { e with a := d.a } := by
  have e1 : prPart d 97 = 120 :: Lib.itoa d.a := by unfold prPart; rw [if_neg (by decide), if_pos rfl]
  unfold takeV; rw [if_neg (by decide), if_pos rfl, e1, rgsV_itoa _ h.a0.1 h.a0.2]; rfl
theorem take_b (d e : Dr) (h : Okd d) : takeV 98 (prPart d 98) e = some { e with b := d.b } := by
  have e1 : prPart d 98 = 120 :: Lib.itoa d.b := by unfold prPart; rw [if_neg (by decide), if_neg (by decide), if_pos rfl]
  unfold takeV; rw [if_neg (by decide), if_neg (by decide), if_pos rfl, e1, rgsV_itoa _ h.b0.1 h.b0.2]; rfl
theorem take_n (d e : Dr) (h : Okd d) : takeV 110 (prPart d 110) e = some { e with n := d.n } := by
  have e1 : prPart d 110 = Lib.itoa d.n := by unfold prPart; rw [if_neg (by decide), if_neg (by decide), if_neg (by decide), if_neg (by decide)]
  unfold takeV; rw [if_neg (by decide), if_neg (by decide), if_neg (by decide), if_neg (by decide), if_neg (by simp), e1, numV_itoa _ h.n0.1 h.n0.2]; rfl
theorem itoa_noname (n : Int) : nameV (Lib.itoa n) = false := by
  cases h : Lib.itoa n with
  | nil => exact absurd h (itoa_ne n)
  | cons c t =>
    have hc := itoa_sign n c (by rw [h]; simp)
    have hl : isL c = false := by unfold isL; simp; omega
    simp [nameV, hl]
theorem take_p (d e : Dr) (h : Okd d) : takeV 58 (prPart d 58) e = some { e with n := d.n } := by
  have e1 : prPart d 58 = Lib.itoa d.n := by unfold prPart; rw [if_neg (by decide), if_neg (by decide), if_neg (by decide), if_neg (by decide)]
  unfold takeV; rw [if_neg (by decide), if_neg (by decide), if_neg (by decide), if_neg (by decide), e1, if_neg (by rw [itoa_noname]; simp), numV_itoa _ h.n0.1 h.n0.2]; rfl
theorem take_m (d e : Dr) (h : Okd d) : takeV 40 (prPart d 40) e = some { e with n := d.n, a := d.a } := by
  have e1 : prPart d 40 = Lib.itoa d.n ++ 40 :: (120 :: Lib.itoa d.a ++ [41]) := by unfold prPart; rw [if_neg (by decide), if_neg (by decide), if_neg (by decide), if_pos rfl]; simp
  have e2 : cutC 40 (prPart d 40) = (Lib.itoa d.n, 120 :: Lib.itoa d.a ++ [41], true) := by rw [e1]; exact cutC_some _ _ _ (itoa_no _ _ (by decide) (by decide))
  have e3 : (120 :: Lib.itoa d.a ++ [41]).getLast? = some 41 := by rw [List.getLast?_append]; rfl
  have e4 : (120 :: Lib.itoa d.a ++ [41]).dropLast = 120 :: Lib.itoa d.a := List.dropLast_concat
  unfold takeV
  rw [if_neg (by decide), if_neg (by decide), if_neg (by decide), if_pos rfl, e2]
  dsimp only
  rw [memV_some e3 (numV_itoa _ h.n0.1 h.n0.2), e4, rgsV_itoa _ h.a0.1 h.a0.2]
  rfl
end Go.Proofs.YtjjjdplgdlaihaaGreatDoor

namespace Go.Proofs.YtjjjdplgdlaihaaGreatDoor
open Go

/-- A part, as it is read back. -/
def setV (d : Dr) (e : Dr) (k : UInt8) : Dr :=
  if k = 100 then { e with d := d.d } else if k = 97 then { e with a := d.a } else if k = 98 then { e with b := d.b } else if k = 40 then { e with n := d.n, a := d.a } else { e with n := d.n }

def kindOk (k : UInt8) : Bool := k == 100 || k == 97 || k == 98 || k == 40 || k == 58 || k == 110

theorem take_any (d e : Dr) (h : Okd d) (k : UInt8) (hk : kindOk k = true) : takeV k (prPart d k) e = some (setV d e k) := by
  simp only [kindOk, Bool.or_eq_true, beq_iff_eq] at hk
  rcases hk with ((((rfl | rfl) | rfl) | rfl) | rfl) | rfl
  · exact take_d d e h
  · exact take_a d e h
  · exact take_b d e h
  · exact take_m d e h
  · exact take_p d e h
  · exact take_n d e h

theorem parts_any (d : Dr) (h : Okd d) : ∀ (ks : By) (k : UInt8) (e : Dr), (∀ x ∈ k :: ks, kindOk x = true) → partsV (k :: ks) (prPart d k ++ prParts d ks false) e = some ((k :: ks).foldl (setV d) e)
  | [], k, e, hk => by
    have e1 : cutC 44 (prPart d k ++ prParts d [] false) = (prPart d k, [], false) := by
      simp only [prParts, List.append_nil]
      exact cutC_none _ _ (prPart_no d k 44 (.inl rfl))
    rw [partsV, e1]
    dsimp only
    rw [if_pos (by rfl), take_any d e h k (hk k (by simp))]
    dsimp only
    rw [partsV, if_pos rfl]
    rfl
  | k2 :: ks, k, e, hk => by
    have e1 : cutC 44 (prPart d k ++ prParts d (k2 :: ks) false) = (prPart d k, prPart d k2 ++ prParts d ks false, true) := by
      simp only [prParts]
      exact cutC_some _ _ _ (prPart_no d k 44 (.inl rfl))
    rw [partsV, e1]
    dsimp only
    rw [if_pos (by rfl), take_any d e h k (hk k (by simp))]
    dsimp only
    rw [parts_any d h ks k2 _ (fun x hx => hk x (by simp at hx ⊢; exact .inr hx))]
    rfl

/-- The ops' table: names without blanks, colons, line feeds; parts that there are. -/
theorem ops_ok : ∀ o, o < 32 → 1 ≤ o → opV (opsL.getD o ([], [])).1 = o ∧ (opsL.getD o ([], [])).1 ≠ [] ∧ ((opsL.getD o ([], [])).1.all fun c => decide (97 ≤ c.toNat) && decide (c.toNat ≤ 122)) = true ∧ ((opsL.getD o ([], [])).2.all kindOk) = true := by decide

theorem part_ne (d : Dr) (k : UInt8) : prPart d k ≠ [] := by
  unfold prPart
  split; · simp
  split; · simp
  split; · simp
  split; · simp
  exact itoa_ne _

/-- What is left of an instruction when its parts are read: it is it. -/
structure Wfd (d : Dr) : Prop where
  o1 : 1 ≤ d.o
  o2 : d.o ≤ 31
  ok : Okd d
  back : (opsL.getD d.o.toNat ([], [])).2.foldl (setV d) ⟨d.o, 0, 0, 0, 0, []⟩ = d

theorem read_pr (d : Dr) (h : Wfd d) : readV (prV d) = some d := by
  have hb := h.back
  obtain ⟨p1, p2, p3, p4⟩ := ops_ok d.o.toNat (by have := h.o2; omega) (by have := h.o1; omega)
  have ho : ((d.o.toNat : Nat) : Int) = d.o := by have := h.o1; omega
  unfold readV prV
  generalize hn : (opsL.getD d.o.toNat ([], [])).1 = name at *
  generalize hp : (opsL.getD d.o.toNat ([], [])).2 = parts at *
  have hno : (32 : UInt8) ∉ name := fun hm => by
    have := List.all_eq_true.1 p3 _ hm
    simp at this
  cases parts with
  | nil =>
    have e1 : cutC 32 (name ++ prParts d [] true) = (name, [], false) := by
      simp only [prParts, List.append_nil]
      exact cutC_none _ _ hno
    rw [e1]
    dsimp only
    rw [p1, if_neg (by have := h.o1; omega), hp, ho]
    simp only [trimL, List.dropWhile_nil, partsV]
    simpa using hb
  | cons k ks =>
    have e1 : cutC 32 (name ++ prParts d (k :: ks) true) = (name, prPart d k ++ prParts d ks false, true) := by
      simp only [prParts]
      exact cutC_some _ _ _ hno
    rw [e1]
    dsimp only
    rw [p1, if_neg (by have := h.o1; omega), hp, ho]
    have e2 : trimL (prPart d k ++ prParts d ks false) = prPart d k ++ prParts d ks false := by
      cases hc : prPart d k with
      | nil => exact absurd hc (part_ne d k)
      | cons c t =>
        have : c ≠ 32 := fun e => prPart_no d k 32 (by simp) (by rw [hc, e]; simp)
        unfold trimL
        rw [List.cons_append, List.dropWhile_cons_of_neg (by simpa using this)]
    rw [e2, parts_any d h.ok ks k _ (fun x hx => List.all_eq_true.1 p4 x hx), hb]

theorem parts_no (d : Dr) (c : UInt8) (h : c = 10 ∨ c = 58) : ∀ (ks : By) (f : Bool), c ∉ prParts d ks f
  | [], _ => by simp [prParts]
  | k :: ks, f => by
    have h1 := prPart_no d k c (by rcases h with rfl | rfl <;> simp)
    have h2 := parts_no d c h ks false
    have h3 : c ≠ 32 := by rcases h with rfl | rfl <;> decide
    have h4 : c ≠ 44 := by rcases h with rfl | rfl <;> decide
    cases f <;> simp [prParts, h1, h2, h3, h4]

/-- What is written has no line feed and no colon. -/
theorem pr_no (d : Dr) (h : Wfd d) (c : UInt8) (hc : c = 10 ∨ c = 58) : c ∉ prV d := by
  obtain ⟨p1, p2, p3, p4⟩ := ops_ok d.o.toNat (by have := h.o2; omega) (by have := h.o1; omega)
  unfold prV
  intro hm
  rcases List.mem_append.1 hm with hm | hm
  · have := List.all_eq_true.1 p3 _ hm
    rcases hc with rfl | rfl <;> simp at this
  · exact parts_no d c hc _ _ hm

/-- Its first sign is a letter. -/
theorem pr_head (d : Dr) (h : Wfd d) : ∃ c t, prV d = c :: t ∧ c ≠ 32 := by
  obtain ⟨p1, p2, p3, p4⟩ := ops_ok d.o.toNat (by have := h.o2; omega) (by have := h.o1; omega)
  unfold prV
  cases hn : (opsL.getD d.o.toNat ([], [])).1 with
  | nil => exact absurd hn p2
  | cons c t =>
    rw [hn] at p3
    refine ⟨c, t ++ prParts d (opsL.getD d.o.toNat ([], [])).2 true, rfl, fun e => ?_⟩
    subst e
    have := List.all_eq_true.1 p3 32 (by simp)
    simp at this

theorem part_last (d : Dr) (k : UInt8) : (prPart d k).getLast? ≠ some 32 := fun e => prPart_no d k 32 (by simp) (List.mem_of_getLast? e)
theorem parts_last (d : Dr) : ∀ (ks : By) (f : Bool), ks ≠ [] → (prParts d ks f).getLast? ≠ some 32 ∧ prParts d ks f ≠ []
  | [], _, h => absurd rfl h
  | [k], f, _ => by
    refine ⟨?_, by simp [prParts]⟩
    simp only [prParts, List.append_nil]
    rw [List.getLast?_cons]
    cases hc : (prPart d k).getLast? with
    | none => exact absurd (List.getLast?_eq_none_iff.1 hc) (part_ne d k)
    | some x =>
      have := part_last d k
      rw [hc] at this
      simpa using this
  | k :: k2 :: ks, f, _ => by
    obtain ⟨h1, h2⟩ := parts_last d (k2 :: ks) false (by simp)
    refine ⟨?_, by simp [prParts]⟩
    rw [prParts, List.getLast?_cons, List.getLast?_append]
    cases hc : (prParts d (k2 :: ks) false).getLast? with
    | none => exact absurd (List.getLast?_eq_none_iff.1 hc) h2
    | some x =>
      rw [hc] at h1
      simpa using h1

/-- Its last sign is no blank. -/
theorem pr_last (d : Dr) (h : Wfd d) : (prV d).getLast? ≠ some 32 := by
  obtain ⟨p1, p2, p3, p4⟩ := ops_ok d.o.toNat (by have := h.o2; omega) (by have := h.o1; omega)
  unfold prV
  rw [List.getLast?_append]
  cases hp : (opsL.getD d.o.toNat ([], [])).2 with
  | nil =>
    simp only [prParts, List.getLast?_nil, Option.none_or]
    intro e
    have := List.all_eq_true.1 p3 32 (List.mem_of_getLast? e)
    simp at this
  | cons k ks =>
    obtain ⟨h1, h2⟩ := parts_last d (k :: ks) true (by simp)
    cases hc : (prParts d (k :: ks) true).getLast? with
    | none => exact absurd (List.getLast?_eq_none_iff.1 hc) h2
    | some x =>
      rw [hc] at h1
      simpa using h1

/-- Blanks about a text that has none at its ends go. -/
theorem trim_about (s : By) (n k : Nat) (h1 : ∀ c t, s = c :: t → c ≠ 32) (h2 : s.getLast? ≠ some 32) : trimV (List.replicate n 32 ++ s ++ List.replicate k 32) = s := by
  have dw : ∀ (m : Nat) (t : By), (∀ c r, t = c :: r → c ≠ 32) → (List.replicate m (32 : UInt8) ++ t).dropWhile (· == 32) = t := fun m t ht => by
    induction m with
    | zero =>
      cases t with
      | nil => rfl
      | cons c r => simp only [List.replicate_zero, List.nil_append]; rw [List.dropWhile_cons_of_neg (by simpa using ht c r rfl)]
    | succ m ih => rw [List.replicate_succ, List.cons_append, List.dropWhile_cons_of_pos (by rfl)]; exact ih
  unfold trimV
  cases s with
  | nil =>
    simp only [List.append_nil]
    have : ∀ m : Nat, (List.replicate m (32 : UInt8)).dropWhile (· == 32) = [] := fun m => by simp
    rw [List.replicate_append_replicate, List.reverse_replicate, this]
    rfl
  | cons c t =>
    rw [List.reverse_append, List.reverse_replicate, List.reverse_append, List.reverse_replicate, dw k _ ?_, List.reverse_append, List.reverse_reverse, List.reverse_replicate, dw n _ (fun c' r e => h1 c' r e)]
    intro c' r e
    have : (c :: t).getLast? = some c' := by
      cases hr : (c :: t).reverse with
      | nil => simp at hr
      | cons x y =>
        rw [hr] at e
        simp only [List.cons_append] at e
        injection e with e1 _
        rw [← List.head?_reverse, hr, ← e1]
        rfl
    intro e'
    rw [this, e'] at h2
    exact h2 rfl
theorem trim_pr (d : Dr) (h : Wfd d) (n k : Nat) : trimV (List.replicate n 32 ++ prV d ++ List.replicate k 32) = prV d :=
  trim_about _ n k (fun c t e => by obtain ⟨c', t', e', hc⟩ := pr_head d h; rw [e] at e'; injection e' with e1 _; rw [e1]; exact hc) (pr_last d h)
end Go.Proofs.YtjjjdplgdlaihaaGreatDoor

namespace Go.Proofs.YtjjjdplgdlaihaaGreatDoor
open Go

/-- A text's pieces between signs. -/
def splitC (c : UInt8) : By → List By
  | [] => [[]]
  | x :: t => if x = c then [] :: splitC c t else (match splitC c t with | [] => [[x]] | p :: ps => (x :: p) :: ps)

theorem splitC_ne (c : UInt8) (s : By) : splitC c s ≠ [] := by
  cases s with
  | nil => simp [splitC]
  | cons x t =>
    rw [splitC]
    split
    · simp
    · split <;> simp
theorem splitC_none (c : UInt8) : ∀ s : By, c ∉ s → splitC c s = [s]
  | [], _ => rfl
  | x :: t, h => by
    simp only [List.mem_cons, not_or] at h
    rw [splitC, if_neg (Ne.symm h.1), splitC_none c t h.2]
theorem splitC_some (c : UInt8) : ∀ s t : By, c ∉ s → splitC c (s ++ c :: t) = s :: splitC c t
  | [], t, _ => by simp [splitC]
  | x :: s, t, h => by
    simp only [List.mem_cons, not_or] at h
    rw [List.cons_append, splitC, if_neg (Ne.symm h.1), splitC_some c s t h.2]

/-- The lines, without blanks at both ends. -/
def linesV (s : By) : List By := (splitC 10 s).map trimV

abbrev Drafts := List (Dr × Nat)
abbrev Places := List (By × Nat)

/-- Line by line: drafts, with their lines, and places; or a fault (its Errno, its line). -/
def asmL : List By → Nat → Drafts → Places → Except (Int × Nat) (Drafts × Places)
  | [], _, ds, ps => .ok (ds, ps)
  | l :: ls, k, ds, ps =>
    if l = [] then asmL ls (k + 1) ds ps
    else if l.getLast? = some 58 then
      (if nameV l.dropLast = false then .error (3, k)
       else if (ps.lookup l.dropLast).isSome then .error (9, k)
       else asmL ls (k + 1) ds ((l.dropLast, ds.length) :: ps))
    else
      match readV l with
      | none => .error (3, k)
      | some d => asmL ls (k + 1) (ds ++ [(d, k)]) ps

/-- The drafts' instructions, places put in. -/
def finV (rt : Dr → Bool) (ps : Places) : Nat → Drafts → Except (Int × Nat) (List Dr)
  | _, [] => .ok []
  | i, (d, k) :: ds =>
    if d.pl = [] then
      (if rt d then (finV rt ps (i + 1) ds).map (d :: ·) else .error (2, k))
    else
      match ps.lookup d.pl with
      | none => .error (7, k)
      | some j => if rt { d with n := 4 * ((j : Int) - i), pl := [] } then (finV rt ps (i + 1) ds).map ({ d with n := 4 * ((j : Int) - i), pl := [] } :: ·) else .error (2, k)

def asmV (rt : Dr → Bool) (s : By) : Except (Int × Nat) (List Dr) :=
  match asmL (linesV s) 0 [] [] with
  | .error e => .error e
  | .ok (ds, ps) => finV rt ps 0 ds

theorem asmL_blank (ls : List By) (k : Nat) (ds : Drafts) (ps : Places) : asmL ([] :: ls) k ds ps = asmL ls (k + 1) ds ps := by rw [asmL, if_pos rfl]
theorem asmL_inst (ls : List By) (k : Nat) (ds : Drafts) (ps : Places) (d : Dr) (h : Wfd d) : asmL (prV d :: ls) k ds ps = asmL ls (k + 1) (ds ++ [(d, k)]) ps := by
  obtain ⟨c, t, e, _⟩ := pr_head d h
  rw [asmL, if_neg (by rw [e]; simp), if_neg (fun e => pr_no d h 58 (.inr rfl) (List.mem_of_getLast? e)), read_pr d h]

/-- Instructions as text, a line each. -/
def textV : List Dr → By
  | [] => []
  | d :: l => prV d ++ 10 :: textV l

/-- Only drafts without places: their instructions. -/
theorem fin_all (rt : Dr → Bool) (ps : Places) : ∀ (ds : Drafts) (i : Nat), (∀ x ∈ ds, x.1.pl = [] ∧ rt x.1 = true) → finV rt ps i ds = .ok (ds.map (·.1))
  | [], _, _ => rfl
  | (d, k) :: ds, i, h => by
    obtain ⟨h1, h2⟩ := h (d, k) (by simp)
    rw [finV, if_pos h1, if_pos h2, fin_all rt ps ds (i + 1) (fun x hx => h x (by simp [hx]))]
    rfl

/-- The lines of a text of instructions, the last one empty, with what comes behind. -/
theorem lines_text : ∀ (l : List Dr) (t : By), (∀ d ∈ l, Wfd d) → linesV (textV l ++ t) = l.map prV ++ linesV t
  | [], _, _ => rfl
  | d :: l, t, h => by
    have hd := h d (by simp)
    have e : textV (d :: l) ++ t = prV d ++ 10 :: (textV l ++ t) := by simp [textV]
    rw [e]
    unfold linesV
    rw [splitC_some _ _ _ (pr_no d hd 10 (.inl rfl))]
    have := trim_pr d hd 0 0
    simp only [List.replicate_zero, List.nil_append, List.append_nil] at this
    rw [List.map_cons, this, List.map_cons, List.cons_append]
    congr 1
    exact lines_text l t (fun x hx => h x (by simp [hx]))

theorem asm_insts : ∀ (l : List Dr) (ls : List By) (k : Nat) (ds : Drafts) (ps : Places), (∀ d ∈ l, Wfd d) → ∃ es : Drafts, es.map (·.1) = l ∧ asmL (l.map prV ++ ls) k ds ps = asmL ls (k + l.length) (ds ++ es) ps
  | [], ls, k, ds, ps, _ => ⟨[], rfl, by simp⟩
  | d :: l, ls, k, ds, ps, h => by
    obtain ⟨es, h1, h2⟩ := asm_insts l ls (k + 1) (ds ++ [(d, k)]) ps (fun x hx => h x (by simp [hx]))
    refine ⟨(d, k) :: es, by simp [h1], ?_⟩
    rw [List.map_cons, List.cons_append, asmL_inst _ _ _ _ d (h d (by simp)), h2]
    simp [Nat.add_assoc, Nat.add_comm 1]

/-- What instructions are written as are these instructions. -/
theorem asm_text (rt : Dr → Bool) (l : List Dr) (h : ∀ d ∈ l, Wfd d) (hr : ∀ d ∈ l, rt d = true) (hp : ∀ d ∈ l, d.pl = []) : asmV rt (textV l) = .ok l := by
  have e0 := lines_text l [] h
  rw [List.append_nil] at e0
  have e1 : linesV [] = [[]] := rfl
  obtain ⟨es, h1, h2⟩ := asm_insts l [[]] 0 [] [] h
  unfold asmV
  rw [e0, e1, h2, asmL_blank, asmL]
  dsimp only
  rw [List.nil_append, fin_all rt [] es 0 ?_, h1]
  intro x hx
  have : x.1 ∈ l := by rw [← h1]; exact List.mem_map_of_mem hx
  exact ⟨hp _ this, hr _ this⟩

/-- Line feeds with blanks ahead and another one behind. -/
def widen (s : By) : By := s.flatMap fun c => if c = 10 then [32, 32, 10, 10] else [c]

theorem widen_no : ∀ s : By, (10 : UInt8) ∉ s → widen s = s
  | [], _ => rfl
  | c :: t, h => by
    simp only [List.mem_cons, not_or] at h
    have := widen_no t h.2
    unfold widen at this ⊢
    rw [List.flatMap_cons, if_neg (Ne.symm h.1), this]
    rfl
theorem widen_append (s t : By) : widen (s ++ t) = widen s ++ widen t := by unfold widen; rw [List.flatMap_append]

/-- The lines of a widened text of instructions behind two blanks. -/
theorem lines_wide : ∀ (l : List Dr) (t : By) (n : Nat), (∀ d ∈ l, Wfd d) → ∃ ls m, linesV (List.replicate n 32 ++ (widen (textV l) ++ t)) = ls ++ linesV (List.replicate m 32 ++ t) ∧ (l ≠ [] → m = 0) ∧ (l = [] → m = n) ∧ ls = l.flatMap (fun d => [prV d, []])
  | [], t, n, _ => ⟨[], n, rfl, fun h => absurd rfl h, fun _ => rfl, rfl⟩
  | d :: l, t, n, h => by
    have hd := h d (by simp)
    have hno := pr_no d hd 10 (.inl rfl)
    obtain ⟨ls, m, h1, h2, h3, h4⟩ := lines_wide l t 0 (fun x hx => h x (by simp [hx]))
    have em : m = 0 := by
      by_cases e : l = []
      · exact h3 e
      · exact h2 e
    refine ⟨prV d :: [] :: ls, 0, ?_, fun _ => rfl, fun e => by simp at e, by rw [h4]; rfl⟩
    have e : List.replicate n 32 ++ (widen (textV (d :: l)) ++ t) = (List.replicate n 32 ++ prV d ++ List.replicate 2 32) ++ 10 :: ([] ++ 10 :: (widen (textV l) ++ t)) := by
      have e5 : widen (10 :: textV l) = [32, 32, 10, 10] ++ widen (textV l) := by unfold widen; rw [List.flatMap_cons, if_pos rfl]
      rw [textV, widen_append, widen_no _ hno, e5]
      simp [List.replicate_succ]
    rw [e]
    unfold linesV at h1 ⊢
    rw [splitC_some _ _ _ (by simp [hno, List.mem_replicate]), splitC_some _ _ _ (by simp), List.map_cons, List.map_cons, trim_pr d hd n 2]
    rw [em] at h1
    simp only [List.replicate_zero, List.nil_append] at h1 ⊢
    rw [h1]
    rfl

theorem asm_wide : ∀ (l : List Dr) (ls : List By) (k : Nat) (ds : Drafts) (ps : Places), (∀ d ∈ l, Wfd d) → ∃ es : Drafts, es.map (·.1) = l ∧ ∃ k', asmL (l.flatMap (fun d => [prV d, []]) ++ ls) k ds ps = asmL ls k' (ds ++ es) ps
  | [], ls, k, ds, ps, _ => ⟨[], rfl, k, by simp⟩
  | d :: l, ls, k, ds, ps, h => by
    obtain ⟨es, h1, k', h2⟩ := asm_wide l ls (k + 1 + 1) (ds ++ [(d, k)]) ps (fun x hx => h x (by simp [hx]))
    refine ⟨(d, k) :: es, by simp [h1], k', ?_⟩
    rw [List.flatMap_cons, List.append_assoc, List.cons_append, asmL_inst _ _ _ _ d (h d (by simp)), List.cons_append, asmL_blank, List.nil_append, h2]
    simp

/-- Texts, one behind the other, are theirs, one behind the other. -/
theorem asm_two (rt : Dr → Bool) (l m : List Dr) (h : ∀ d ∈ l ++ m, Wfd d) (hr : ∀ d ∈ l ++ m, rt d = true) (hp : ∀ d ∈ l ++ m, d.pl = []) : asmV rt (32 :: 32 :: (widen (textV l) ++ textV m)) = .ok (l ++ m) := by
  have hl : ∀ d ∈ l, Wfd d := fun d hd => h d (by simp [hd])
  have hm : ∀ d ∈ m, Wfd d := fun d hd => h d (by simp [hd])
  obtain ⟨ls, k, e1, e2, e3, e4⟩ := lines_wide l (textV m) 2 hl
  have eL : (32 : UInt8) :: 32 :: (widen (textV l) ++ textV m) = List.replicate 2 32 ++ (widen (textV l) ++ textV m) := rfl
  -- the second text's lines, blanks ahead or none
  have e5 : linesV (List.replicate k 32 ++ textV m) = m.map prV ++ [[]] := by
    cases m with
    | nil =>
      have : linesV (List.replicate k 32 ++ textV []) = [trimV (List.replicate k 32)] := by
        unfold linesV
        rw [textV, List.append_nil, splitC_none _ _ (by simp [List.mem_replicate])]
        rfl
      rw [this]
      have := trim_about [] k 0 (by simp) (by simp)
      simp only [List.append_nil, List.replicate_zero] at this
      rw [this]
      rfl
    | cons d m =>
      have hd := hm d (by simp)
      have e : List.replicate k 32 ++ textV (d :: m) = (List.replicate k 32 ++ prV d ++ List.replicate 0 32) ++ 10 :: textV m := by simp [textV]
      have e6 := lines_text m [] (fun x hx => hm x (by simp [hx]))
      rw [List.append_nil] at e6
      rw [e]
      unfold linesV at e6 ⊢
      rw [splitC_some _ _ _ (by simp [pr_no d hd 10 (.inl rfl), List.mem_replicate]), List.map_cons, trim_pr d hd k 0, e6]
      rfl
  obtain ⟨es, h1, k', h2⟩ := asm_wide l (m.map prV ++ [[]]) 0 [] [] hl
  obtain ⟨es', h1', h2'⟩ := asm_insts m [[]] k' es [] hm
  unfold asmV
  rw [eL, e1, e5, e4, h2, List.nil_append, h2', asmL_blank, asmL]
  dsimp only
  rw [fin_all rt [] (es ++ es') 0 ?_, List.map_append, h1, h1']
  intro x hx
  have : x.1 ∈ l ++ m := by rw [← h1, ← h1', ← List.map_append]; exact List.mem_map_of_mem hx
  exact ⟨hp _ this, hr _ this⟩
end Go.Proofs.YtjjjdplgdlaihaaGreatDoor

namespace Go.Proofs.YtjjjdplgdlaihaaGreatDoor
open Go

def here : By := [104, 101, 114, 101]
def jl : By := [106, 97, 108, 32, 120, 49, 44, 104, 101, 114, 101]
/-- A jump to the place. -/
def J : Dr := ⟨30, 1, 0, 0, 0, here⟩
theorem read_jl : readV jl = some J := by kernel_rfl

/-- A line of this text: an instruction, or the jump. -/
def lineV (d : Dr) : By := if d.pl ≠ [] then jl else prV d
def okLine (d : Dr) : Prop := d = J ∨ (Wfd d ∧ d.pl = [])

theorem asmL_line (ls : List By) (k : Nat) (ds : Drafts) (ps : Places) (d : Dr) (h : okLine d) : asmL (lineV d :: ls) k ds ps = asmL ls (k + 1) (ds ++ [(d, k)]) ps := by
  by_cases hd : d = J
  · subst hd
    have e : lineV J = jl := if_pos (by decide)
    rw [e, asmL, if_neg (by decide), if_neg (by decide), read_jl]
  · rcases h with h | ⟨h, hpl⟩
    · exact absurd h hd
    · rw [lineV, if_neg (fun e => e hpl)]; exact asmL_inst ls k ds ps d h

theorem asm_lines : ∀ (l : List Dr) (ls : List By) (k : Nat) (ds : Drafts) (ps : Places), (∀ d ∈ l, okLine d) → ∃ es : Drafts, es.map (·.1) = l ∧ asmL (l.map lineV ++ ls) k ds ps = asmL ls (k + l.length) (ds ++ es) ps
  | [], ls, k, ds, ps, _ => ⟨[], rfl, by simp⟩
  | d :: l, ls, k, ds, ps, h => by
    obtain ⟨es, h1, h2⟩ := asm_lines l ls (k + 1) (ds ++ [(d, k)]) ps (fun x hx => h x (by simp [hx]))
    refine ⟨(d, k) :: es, by simp [h1], ?_⟩
    rw [List.map_cons, List.cons_append, asmL_line _ _ _ _ d (h d (by simp)), h2]
    simp [Nat.add_assoc, Nat.add_comm 1]

/-- Lines, a line feed behind each. -/
def linesT : List Dr → By
  | [] => []
  | d :: l => lineV d ++ 10 :: linesT l
theorem linesT_append (l m : List Dr) : linesT (l ++ m) = linesT l ++ linesT m := by
  induction l with
  | nil => rfl
  | cons d l ih => simp [linesT, ih]

theorem line_no (d : Dr) (h : okLine d) : (10 : UInt8) ∉ lineV d := by
  by_cases hd : d = J
  · subst hd
    have e : lineV J = jl := if_pos (by decide)
    rw [e]; decide
  · rcases h with h | ⟨h, hpl⟩
    · exact absurd h hd
    · rw [lineV, if_neg (fun e => e hpl)]; exact pr_no d h 10 (.inl rfl)
theorem line_trim (d : Dr) (h : okLine d) : trimV (lineV d) = lineV d := by
  by_cases hd : d = J
  · subst hd
    have e : lineV J = jl := if_pos (by decide)
    rw [e]; decide +kernel
  · rcases h with h | ⟨h, hpl⟩
    · exact absurd h hd
    · rw [lineV, if_neg (fun e => e hpl)]
      have := trim_pr d h 0 0
      simpa using this
theorem lines_T : ∀ (l : List Dr) (t : By), (∀ d ∈ l, okLine d) → linesV (linesT l ++ t) = l.map lineV ++ linesV t
  | [], _, _ => rfl
  | d :: l, t, h => by
    have hd := h d (by simp)
    have e : linesT (d :: l) ++ t = lineV d ++ 10 :: (linesT l ++ t) := by simp [linesT]
    rw [e]
    unfold linesV
    rw [splitC_some _ _ _ (line_no d hd), List.map_cons, line_trim d hd, List.map_cons, List.cons_append]
    congr 1
    exact lines_T l t (fun x hx => h x (by simp [hx]))

/-- The whole text: so many lines, the place, the others. -/
def placeT (l : List Dr) (to : Nat) : By := linesT (l.take to) ++ (here ++ 58 :: 10 :: linesT (l.drop to))

/-- What the jump comes to. -/
def jTo (n : Int) : Dr := ⟨30, 1, 0, 0, n, []⟩

theorem fin_place (rt : Dr → Bool) (to : Nat) : ∀ (ds : Drafts) (i : Nat), (∀ x ∈ ds, x.1 = J ∨ (x.1.pl = [] ∧ rt x.1 = true)) → (∀ j : Nat, j < i + ds.length → rt (jTo (4 * ((to : Int) - j))) = true) →
    ∃ ys : List Dr, finV rt [(here, to)] i ds = .ok ys ∧ ys.length = ds.length ∧ ∀ j (h : j < ds.length) (h' : j < ys.length), ys[j] = if (ds[j]).1.pl ≠ [] then jTo (4 * ((to : Int) - (i + j : Nat))) else (ds[j]).1
  | [], i, _, _ => ⟨[], rfl, rfl, fun j h _ => absurd h (Nat.not_lt_zero j)⟩
  | (d, k) :: ds, i, h, hr => by
    obtain ⟨ys, h1, h2, h3⟩ := fin_place rt to ds (i + 1) (fun x hx => h x (by simp [hx])) (fun j hj => hr j (by simp at hj ⊢; omega))
    have tl : ∀ y : Dr, (y = if d.pl ≠ [] then jTo (4 * ((to : Int) - (i : Nat))) else d) → ∀ j (hh : j < ((d, k) :: ds).length) (h' : j < (y :: ys).length), (y :: ys)[j] = if (((d, k) :: ds)[j]).1.pl ≠ [] then jTo (4 * ((to : Int) - (i + j : Nat))) else (((d, k) :: ds)[j]).1 := fun y hy j hh h' => by
      cases j with
      | zero => simpa using hy
      | succ j =>
        have := h3 j (by simpa using hh) (by simpa using h')
        simp only [List.getElem_cons_succ]
        rw [this]
        have e : ((i + 1 + j : Nat) : Int) = ((i + (j + 1) : Nat) : Int) := by omega
        rw [e]
    by_cases hd : d = J
    · have e1 : d.pl ≠ [] := by rw [hd]; decide
      have e2 : [(here, to)].lookup d.pl = some to := by
        rw [hd]
        have : J.pl = here := rfl
        rw [this]
        simp [List.lookup]
      have e3 : ({ d with n := 4 * ((to : Int) - i), pl := [] } : Dr) = jTo (4 * ((to : Int) - (i : Nat))) := by rw [hd]; rfl
      refine ⟨jTo (4 * ((to : Int) - (i : Nat))) :: ys, ?_, by simp [h2], tl _ (by rw [if_pos e1])⟩
      rw [finV, if_neg e1, e2]
      dsimp only
      rw [e3, if_pos (hr i (by simp)), h1]
      rfl
    · rcases h (d, k) (by simp) with hx | ⟨hx, hy⟩
      · exact absurd hx hd
      · refine ⟨d :: ys, ?_, by simp [h2], tl _ (by rw [if_neg (fun e => e hx)])⟩
        have hx' : d.pl = [] := hx
        have hy' : rt d = true := hy
        rw [finV, if_pos hx', if_pos hy', h1]
        rfl

/-- A jump to a place leads just there. -/
theorem asm_place (rt : Dr → Bool) (l : List Dr) (to : Nat) (ht : to ≤ l.length) (h : ∀ d ∈ l, d = J ∨ (Wfd d ∧ d.pl = [] ∧ rt d = true)) (hr : ∀ j : Nat, j < l.length → rt (jTo (4 * ((to : Int) - j))) = true) :
    ∃ ys : List Dr, asmV rt (placeT l to) = .ok ys ∧ ys.length = l.length ∧ ∀ j (hj : j < l.length) (h' : j < ys.length), ys[j] = if (l[j]).pl ≠ [] then jTo (4 * ((to : Int) - j)) else l[j] := by
  have ok : ∀ d ∈ l, okLine d := fun d hd => by
    rcases h d hd with h | ⟨h1, h2, _⟩
    · exact .inl h
    · exact .inr ⟨h1, h2⟩
  have o1 : ∀ d ∈ l.take to, okLine d := fun d hd => ok d (List.mem_of_mem_take hd)
  have o2 : ∀ d ∈ l.drop to, okLine d := fun d hd => ok d (List.mem_of_mem_drop hd)
  have e1 : linesV (placeT l to) = (l.take to).map lineV ++ ((here ++ [58]) :: ((l.drop to).map lineV ++ [[]])) := by
    unfold placeT
    rw [lines_T _ _ o1]
    congr 1
    have e2 : here ++ 58 :: 10 :: linesT (l.drop to) = (here ++ [58]) ++ 10 :: linesT (l.drop to) := by simp
    have e3 := lines_T (l.drop to) [] o2
    rw [List.append_nil] at e3
    rw [e2]
    unfold linesV at e3 ⊢
    rw [splitC_some _ _ _ (by decide), List.map_cons, e3]
    rfl
  obtain ⟨es, h1, h2⟩ := asm_lines (l.take to) ((here ++ [58]) :: ((l.drop to).map lineV ++ [[]])) 0 [] [] o1
  have hes : es.length = to := by have := congrArg List.length h1; simp at this; omega
  obtain ⟨es', h1', h2'⟩ := asm_lines (l.drop to) [[]] (0 + (l.take to).length + 1) es [(here, to)] o2
  have e5 : asmL (linesV (placeT l to)) 0 [] [] = .ok (es ++ es', [(here, to)]) := by
    rw [e1, h2, List.nil_append, asmL, if_neg (by decide), if_pos (by decide)]
    have e6 : (here ++ [58]).dropLast = here := by decide
    rw [e6, if_neg (by decide), if_neg (by simp), hes, h2', asmL_blank, asmL]
  have hall : (es ++ es').map (·.1) = l := by rw [List.map_append, h1, h1', List.take_append_drop]
  have hlen : (es ++ es').length = l.length := by have := congrArg List.length hall; simpa using this
  obtain ⟨ys, q1, q2, q3⟩ := fin_place rt to (es ++ es') 0 (fun x hx => by
    have : x.1 ∈ l := by rw [← hall]; exact List.mem_map_of_mem hx
    rcases h x.1 this with h | ⟨_, h2, h3⟩
    · exact .inl h
    · exact .inr ⟨h2, h3⟩) (fun j hj => hr j (by omega))
  refine ⟨ys, ?_, by omega, fun j hj h' => ?_⟩
  · unfold asmV; rw [e5]; exact q1
  · have := q3 j (by omega) h'
    have e7 : ((es ++ es')[j]'(by omega)).1 = l[j] := by
      have : ((es ++ es').map (·.1))[j]'(by rw [hall]; exact hj) = l[j] := by simp only [hall]
      rw [List.getElem_map] at this
      exact this
    rw [e7] at this
    rw [this]
    simp
end Go.Proofs.YtjjjdplgdlaihaaGreatDoor

namespace Go.Proofs.YtjjjdplgdlaihaaGreatDoor
open Go

def hasN (ks : By) : Bool := ks.any fun k => k == 40 || k == 58 || k == 110
theorem fold_set (d : Dr) : ∀ (ks : By) (e : Dr), (∀ k ∈ ks, kindOk k = true) → ks.foldl (setV d) e = ⟨e.o, if ks.contains 100 then d.d else e.d, if ks.contains 97 || ks.contains 40 then d.a else e.a, if ks.contains 98 then d.b else e.b, if hasN ks then d.n else e.n, e.pl⟩
  | [], e, _ => by simp [hasN]
  | k :: ks, e, h => by
    have hk := h k (by simp)
    rw [List.foldl_cons, fold_set d ks _ (fun x hx => h x (by simp [hx]))]
    simp only [kindOk, Bool.or_eq_true, beq_iff_eq] at hk
    rcases hk with ((((rfl | rfl) | rfl) | rfl) | rfl) | rfl
    · simp only [setV, hasN, List.any_cons, List.contains_cons]
      simp
    · simp only [setV, hasN, List.any_cons, List.contains_cons]
      simp
    · simp only [setV, hasN, List.any_cons, List.contains_cons]
      simp
    · simp only [setV, hasN, List.any_cons, List.contains_cons]
      simp
    · simp only [setV, hasN, List.any_cons, List.contains_cons]
      simp
    · simp only [setV, hasN, List.any_cons, List.contains_cons]
      simp

/-- An instruction whose parts that are not named are 0 is read back. -/
theorem wfd_of (d : Dr) (o1 : 1 ≤ d.o) (o2 : d.o ≤ 31) (hd : 0 ≤ d.d ∧ d.d < 32) (ha : 0 ≤ d.a ∧ d.a < 32) (hb : 0 ≤ d.b ∧ d.b < 32) (hn : -9223372036854775808 ≤ d.n ∧ d.n ≤ 9223372036854775807) (hp : d.pl = [])
    (zd : (opsL.getD d.o.toNat ([], [])).2.contains 100 = false → d.d = 0) (za : ((opsL.getD d.o.toNat ([], [])).2.contains 97 || (opsL.getD d.o.toNat ([], [])).2.contains 40) = false → d.a = 0) (zb : (opsL.getD d.o.toNat ([], [])).2.contains 98 = false → d.b = 0) (zn : hasN (opsL.getD d.o.toNat ([], [])).2 = false → d.n = 0) : Wfd d := by
  obtain ⟨p1, p2, p3, p4⟩ := ops_ok d.o.toNat (by omega) (by omega)
  refine ⟨o1, o2, ⟨hd, ha, hb, hn⟩, ?_⟩
  rw [fold_set d _ _ (fun k hk => List.all_eq_true.1 p4 k hk)]
  generalize (opsL.getD d.o.toNat ([], [])).2 = ks at *
  obtain ⟨o, dd, a, b, n, pl⟩ := d
  simp only at hp zd za zb zn ⊢
  subst hp
  congr 1
  · cases h : ks.contains 100 with
    | true => rfl
    | false => exact (zd h).symm
  · cases h : ks.contains 97 || ks.contains 40 with
    | true => rfl
    | false => exact (za h).symm
  · cases h : ks.contains 98 with
    | true => rfl
    | false => exact (zb h).symm
  · cases h : hasN ks with
    | true => rfl
    | false => exact (zn h).symm
end Go.Proofs.YtjjjdplgdlaihaaGreatDoor
