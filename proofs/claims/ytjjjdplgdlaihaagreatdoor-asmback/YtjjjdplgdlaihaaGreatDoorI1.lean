/- The lines of a text, one by one, and what Assemble has behind each of them. -/
import Derived.Test.YtjjjdplgdlaihaaGreatDoorN5
namespace Go.Proofs.YtjjjdplgdlaihaaGreatDoor
open Go

/-- A line with its number. -/
abbrev Ln := { x : Nat × ByteArray // x.1 < 4294967281 ∧ x.2.size < 4294967281 }
def lnEnc (x : Ln) : Array Value := #[.int .i64 (x.1.1 : Int), .string x.1.2]
def lnAt (s : By) (k : Nat) : Ln :=
  if h : k < 4294967281 ∧ (trimV ((splitC 10 s).getD k [])).length < 4294967281 then ⟨(k, ⟨(trimV ((splitC 10 s).getD k [])).toArray⟩), h.1, by simpa [ByteArray.size] using h.2⟩ else ⟨(0, ⟨#[]⟩), by decide⟩
def upto (s : By) (k : Nat) : List Ln := (List.range k).map (lnAt s)
theorem upto_succ (s : By) (k : Nat) : upto s (k + 1) = upto s k ++ [lnAt s k] := by simp [upto, List.range_succ]
theorem upto_length (s : By) (k : Nat) : (upto s k).length = k := by simp [upto]
theorem upto_take (s : By) (n k : Nat) (h : k ≤ n) : upto s k <+: upto s n := by
  refine ⟨(List.range' k (n - k)).map (lnAt s), ?_⟩
  unfold upto
  rw [← List.map_append, List.range_eq_range', List.range_eq_range']
  have e := List.range'_append_1 (s := 0) (m := k) (n := n - k)
  rw [Nat.zero_add] at e
  rw [e]
  congr 2
  omega

theorem split_len (c : UInt8) : ∀ s : By, (splitC c s).length ≤ s.length + 1
  | [] => by simp [splitC]
  | x :: s => by
    have := split_len c s
    rw [splitC]
    split
    · simp; omega
    · split
      · simp
      · rename_i h; rw [h] at this; simp at this ⊢; omega
theorem split_mem (c : UInt8) : ∀ (s : By) (l : By), l ∈ splitC c s → l.length ≤ s.length
  | [], l, h => by simp [splitC] at h; subst h; simp
  | x :: s, l, h => by
    have ih := split_mem c s
    rw [splitC] at h
    split at h
    · simp at h
      rcases h with rfl | h
      · simp
      · have := ih l h; simp; omega
    · split at h
      · simp at h; subst h; simp
      · rename_i a t hs
        rw [hs] at ih
        simp at h
        rcases h with rfl | h
        · have := ih a (by simp); simp; omega
        · have := ih l (by simp [h]); simp; omega
theorem trimV_len (s : By) : (trimV s).length ≤ s.length := by
  unfold trimV
  refine Nat.le_trans (List.dropWhile_sublist _).length_le ?_
  rw [List.length_reverse]
  exact Nat.le_trans (List.dropWhile_sublist _).length_le (by simp)

theorem lnAt_is (s : By) (hs : s.length < 4294967280) (k : Nat) (hk : k < (splitC 10 s).length) : (lnAt s k).1 = (k, ⟨(trimV (splitC 10 s)[k]).toArray⟩) := by
  have h1 := split_len 10 s
  have h2 := split_mem 10 s _ (List.getElem_mem hk)
  have h3 := trimV_len (splitC 10 s)[k]
  have e : (splitC 10 s).getD k [] = (splitC 10 s)[k] := by rw [List.getD_eq_getElem?_getD, List.getElem?_eq_getElem hk]; rfl
  unfold lnAt
  rw [dif_pos ⟨by omega, by rw [e]; omega⟩]
  simp only [e]

/-- What is had behind a line. -/
abbrev St := Except (Int × Nat) (Drafts × Places)
def stepV (st : St) (k : Nat) (l : By) : St :=
  match st with
  | .error e => .error e
  | .ok (ds, ps) =>
    if l = [] then .ok (ds, ps)
    else if l.getLast? = some 58 then
      (if nameV l.dropLast = false then .error (3, k)
       else if (ps.lookup l.dropLast).isSome then .error (9, k)
       else .ok (ds, (l.dropLast, ds.length) :: ps))
    else
      match readV l with
      | none => .error (3, k)
      | some d => .ok (ds ++ [(d, k)], ps)
def stV (l : List Ln) : St := l.foldl (fun st x => stepV st x.1.1 x.1.2.data.toList) (.ok ([], []))
theorem stV_snoc (l : List Ln) (x : Ln) : stV (l ++ [x]) = stepV (stV l) x.1.1 x.1.2.data.toList := by simp [stV]

def foldE : List By → Nat → St → St
  | [], _, st => st
  | l :: ls, k, st => foldE ls (k + 1) (stepV st k l)
theorem foldE_error (e : Int × Nat) : ∀ (ls : List By) (k : Nat), foldE ls k (.error e) = .error e
  | [], _ => rfl
  | _ :: ls, k => by rw [foldE, stepV]; exact foldE_error e ls (k + 1)
theorem foldE_snoc (l : By) : ∀ (ls : List By) (k : Nat) (st : St), foldE (ls ++ [l]) k st = stepV (foldE ls k st) (k + ls.length) l
  | [], _, _ => rfl
  | x :: ls, k, st => by
    rw [List.cons_append, foldE, foldE_snoc l ls (k + 1), foldE, List.length_cons]
    congr 1
    omega
theorem asmL_fold : ∀ (ls : List By) (k : Nat) (ds : Drafts) (ps : Places), asmL ls k ds ps = foldE ls k (.ok (ds, ps))
  | [], _, _, _ => rfl
  | l :: ls, k, ds, ps => by
    rw [asmL, foldE, stepV]
    split
    · exact asmL_fold ls _ _ _
    · split
      · split
        · rw [foldE_error]
        · split
          · rw [foldE_error]
          · exact asmL_fold ls _ _ _
      · cases readV l with
        | none => dsimp only; rw [foldE_error]
        | some d => exact asmL_fold ls _ _ _
theorem st_take (s : By) (hs : s.length < 4294967280) : ∀ k, k ≤ (splitC 10 s).length → stV (upto s k) = foldE ((linesV s).take k) 0 (.ok ([], []))
  | 0, _ => rfl
  | k + 1, h => by
    have hl : (linesV s).length = (splitC 10 s).length := by simp [linesV]
    rw [upto_succ, stV_snoc, st_take s hs k (by omega), List.take_succ_eq_append_getElem (by omega), foldE_snoc, lnAt_is s hs k (by omega)]
    congr 1
    · simp; omega
    · simp [linesV]
theorem st_all (s : By) (hs : s.length < 4294967280) : stV (upto s (splitC 10 s).length) = asmL (linesV s) 0 [] [] := by
  rw [st_take s hs _ (Nat.le_refl _), asmL_fold]
  congr 1
  have hl : (linesV s).length = (splitC 10 s).length := by simp [linesV]
  rw [← hl, List.take_length]

/-- A text cut once. -/
theorem split_cut : ∀ s : By, splitC 10 s = (cutC 10 s).1 :: (if (cutC 10 s).2.2 then splitC 10 (cutC 10 s).2.1 else [])
  | [] => rfl
  | x :: s => by
    rw [splitC, cutC]
    by_cases h : x = 10
    · rw [if_pos h, if_pos h]; rfl
    · rw [if_neg h, if_neg h, split_cut s]
end Go.Proofs.YtjjjdplgdlaihaaGreatDoor
