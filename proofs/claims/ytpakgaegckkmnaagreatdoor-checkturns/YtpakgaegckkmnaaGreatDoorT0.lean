/- Plain: tokens of a text. -/
import Derived.Lib.SlTrimSet
import Derived.Lib.ParseIntB
namespace Go.Proofs.YtpakgaegckkmnaaGreatDoor
set_option linter.unusedVariables false
open Go

abbrev By := List UInt8
/-- A token: its kind (0 a name, 1 fixed, 2 a number, 3 the end), its text, its place. -/
structure Tok where
  k : Nat
  t : By
  p : Nat

def digs : By := [48, 49, 50, 51, 52, 53, 54, 55, 56, 57]
def lets : By := [97, 98, 99, 100, 101, 102, 103, 104, 105, 106, 107, 108, 109, 110, 111, 112, 113, 114, 115, 116, 117, 118, 119, 120, 121, 122, 95]
def marksL : List By := [[38, 38], [124, 124], [61, 61], [33, 61], [60, 61], [62, 61], [60], [62], [61], [43], [45], [42], [47], [37], [33], [40], [41], [123], [125], [91], [93], [44], [59], [58]]
/-- The marks of two, and how near they hold. -/
def pairsL : List (By × Nat) := [([124, 124], 1), ([38, 38], 2), ([61, 61], 3), ([33, 61], 3), ([60], 4), ([60, 61], 4), ([62], 4), ([62, 61], 4), ([43], 5), ([45], 5), ([42], 6), ([47], 6), ([37], 6)]
def nearV (m : By) : Nat := ((pairsL.find? (·.1 == m)).map (·.2)).getD 0
def wordsL : List By := [[102, 110], [105, 110, 116], [97, 114, 114], [118, 97, 114], [114, 101, 116, 117, 114, 110], [112, 114, 105, 110, 116], [105, 102], [101, 108, 115, 101], [119, 104, 105, 108, 101], [110, 101, 119], [108, 101, 110], [105, 110, 112, 117, 116]]

/-- What is left behind blanks and remarks (true: within a remark). -/
def skipS : Bool → By → By
  | _, [] => []
  | false, c :: s => if c = 32 ∨ c = 9 ∨ c = 10 then skipS false s else if c = 35 then skipS true s else c :: s
  | true, c :: s => if c = 10 then skipS false s else skipS true s
theorem skip_len : ∀ (b : Bool) (s : By), (skipS b s).length ≤ s.length
  | _, [] => by simp [skipS]
  | false, c :: s => by
    rw [skipS]
    have h1 := skip_len false s
    have h2 := skip_len true s
    split
    · simp; omega
    · split
      · simp; omega
      · exact Nat.le_refl _
  | true, c :: s => by
    rw [skipS]
    have h1 := skip_len false s
    have h2 := skip_len true s
    split <;> (simp; omega)
/-- It is a text's end. -/
theorem skip_drop : ∀ (b : Bool) (s : By), skipS b s = s.drop (s.length - (skipS b s).length)
  | _, [] => by simp [skipS]
  | false, c :: s => by
    have l1 := skip_len false s
    have l2 := skip_len true s
    rw [skipS]
    split
    · have h := skip_drop false s
      rw [show (c :: s).length - (skipS false s).length = s.length - (skipS false s).length + 1 by simp; omega, List.drop_succ_cons]
      exact h
    · split
      · have h := skip_drop true s
        rw [show (c :: s).length - (skipS true s).length = s.length - (skipS true s).length + 1 by simp; omega, List.drop_succ_cons]
        exact h
      · simp
  | true, c :: s => by
    have l1 := skip_len false s
    have l2 := skip_len true s
    rw [skipS]
    split
    · have h := skip_drop false s
      rw [show (c :: s).length - (skipS false s).length = s.length - (skipS false s).length + 1 by simp; omega, List.drop_succ_cons]
      exact h
    · have h := skip_drop true s
      rw [show (c :: s).length - (skipS true s).length = s.length - (skipS true s).length + 1 by simp; omega, List.drop_succ_cons]
      exact h
/-- A remark ends where its line does. -/
theorem skip_remark : ∀ s : By, skipS true s = skipS false (s.dropWhile (· != 10))
  | [] => rfl
  | c :: s => by
    rw [skipS]
    by_cases h : c = 10
    · subst h
      rw [if_pos rfl]
      rfl
    · rw [if_neg h, skip_remark s, List.dropWhile_cons, if_pos (by simpa using h)]

/-- How a text begins, as far as its bytes are of a set. -/
def runV (s set : By) : By := s.takeWhile (set.contains ·)
theorem run_trim (s set : By) : s.take (s.length - (Lib.trimLeftS s set).length) = runV s set := by
  unfold Lib.trimLeftS runV
  have e := List.takeWhile_append_dropWhile (p := (set.contains ·)) (l := s)
  have hl : s.length = (s.takeWhile (set.contains ·)).length + (s.dropWhile (set.contains ·)).length := by rw [← List.length_append, e]
  have h2 : s.length - (s.dropWhile (set.contains ·)).length = (s.takeWhile (set.contains ·)).length := by omega
  rw [h2]
  have : s.take (s.takeWhile (set.contains ·)).length = (s.takeWhile (set.contains ·) ++ s.dropWhile (set.contains ·)).take (s.takeWhile (set.contains ·)).length := by rw [e]
  rw [this, List.take_left]

/-- The token with which a text begins: kind and text. -/
def oneTok (rest : By) : Option (Nat × By) :=
  if runV rest digs ≠ [] then some (2, runV rest digs)
  else if runV rest (lets ++ digs) ≠ [] then some (if wordsL.contains (runV rest (lets ++ digs)) then 1 else 0, runV rest (lets ++ digs))
  else (marksL.find? (·.isPrefixOf rest)).map fun m => (1, m)
theorem one_pos {rest : By} {k : Nat} {t : By} (h : oneTok rest = some (k, t)) : 0 < t.length ∧ t.length ≤ rest.length := by
  unfold oneTok at h
  split at h
  · rename_i hd
    injection h with h
    injection h with _ h
    subst h
    exact ⟨List.length_pos_iff.2 hd, (List.takeWhile_prefix _).length_le⟩
  · split at h
    · rename_i hd
      injection h with h
      injection h with _ h
      subst h
      exact ⟨List.length_pos_iff.2 hd, (List.takeWhile_prefix _).length_le⟩
    · obtain ⟨m, hm, he⟩ := Option.map_eq_some_iff.1 h
      injection he with _ he
      subst he
      have h1 := List.find?_some hm
      have h2 := List.mem_of_find?_eq_some hm
      refine ⟨?_, (List.isPrefixOf_iff_prefix.1 h1).length_le⟩
      have : ∀ m ∈ marksL, 0 < m.length := by decide
      exact this m h2

/-- All tokens: fuel, what is left (nothing to skip ahead), those ahead. n: the text's length. -/
def cutV (n : Nat) : Nat → By → List Tok → Except (Int × Nat) (List Tok)
  | 0, _, l => .ok l
  | f + 1, rest, l =>
    if rest = [] then .ok (l ++ [⟨3, [], n⟩])
    else match oneTok rest with
      | none => .error (3, n - rest.length)
      | some (k, t) => if l.length = 1500 then .error (4, n - rest.length) else cutV n f (skipS false (rest.drop t.length)) (l ++ [⟨k, t, n - rest.length⟩])
def tokV (s : By) : Except (Int × Nat) (List Tok) := cutV s.length (s.length + 1) (skipS false s) []
end Go.Proofs.YtpakgaegckkmnaaGreatDoor
