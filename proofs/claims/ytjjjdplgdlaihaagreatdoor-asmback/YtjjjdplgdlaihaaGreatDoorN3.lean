/- Whole texts: lines, places, what they come to. -/
import Derived.Test.YtjjjdplgdlaihaaGreatDoorN2
namespace Go.Proofs.YtjjjdplgdlaihaaGreatDoor
open Go

/-- A text's pieces between signs. -/
def splitC (c : UInt8) : By → List By
  | [] => [[]]
  | x :: t => if x = c then [] :: splitC c t else (match splitC c t with | [] => [[x]] | p :: ps => (x :: p) :: ps)

theorem splitC_ne (c : UInt8) (s : By) : splitC c s ≠ [] := by
  cases s with
  | nil => simp [splitC]
  | cons x t =>
    rw [splitC]
    split
    · simp
    · split <;> simp
theorem splitC_none (c : UInt8) : ∀ s : By, c ∉ s → splitC c s = [s]
  | [], _ => rfl
  | x :: t, h => by
    simp only [List.mem_cons, not_or] at h
    rw [splitC, if_neg (Ne.symm h.1), splitC_none c t h.2]
theorem splitC_some (c : UInt8) : ∀ s t : By, c ∉ s → splitC c (s ++ c :: t) = s :: splitC c t
  | [], t, _ => by simp [splitC]
  | x :: s, t, h => by
    simp only [List.mem_cons, not_or] at h
    rw [List.cons_append, splitC, if_neg (Ne.symm h.1), splitC_some c s t h.2]

/-- The lines, without blanks at both ends. -/
def linesV (s : By) : List By := (splitC 10 s).map trimV

abbrev Drafts := List (Dr × Nat)
abbrev Places := List (By × Nat)

/-- Line by line: drafts, with their lines, and places; or a fault (its Errno, its line). -/
def asmL : List By → Nat → Drafts → Places → Except (Int × Nat) (Drafts × Places)
  | [], _, ds, ps => .ok (ds, ps)
  | l :: ls, k, ds, ps =>
    if l = [] then asmL ls (k + 1) ds ps
    else if l.getLast? = some 58 then
      (if nameV l.dropLast = false then .error (3, k)
       else if (ps.lookup l.dropLast).isSome then .error (9, k)
       else asmL ls (k + 1) ds ((l.dropLast, ds.length) :: ps))
    else
      match readV l with
      | none => .error (3, k)
      | some d => asmL ls (k + 1) (ds ++ [(d, k)]) ps

/-- The drafts' instructions, places put in. -/
def finV (rt : Dr → Bool) (ps : Places) : Nat → Drafts → Except (Int × Nat) (List Dr)
  | _, [] => .ok []
  | i, (d, k) :: ds =>
    if d.pl = [] then
      (if rt d then (finV rt ps (i + 1) ds).map (d :: ·) else .error (2, k))
    else
      match ps.lookup d.pl with
      | none => .error (7, k)
      | some j => if rt { d with n := 4 * ((j : Int) - i), pl := [] } then (finV rt ps (i + 1) ds).map ({ d with n := 4 * ((j : Int) - i), pl := [] } :: ·) else .error (2, k)

def asmV (rt : Dr → Bool) (s : By) : Except (Int × Nat) (List Dr) :=
  match asmL (linesV s) 0 [] [] with
  | .error e => .error e
  | .ok (ds, ps) => finV rt ps 0 ds

theorem asmL_blank (ls : List By) (k : Nat) (ds : Drafts) (ps : Places) : asmL ([] :: ls) k ds ps = asmL ls (k + 1) ds ps := by rw [asmL, if_pos rfl]
theorem asmL_inst (ls : List By) (k : Nat) (ds : Drafts) (ps : Places) (d : Dr) (h : Wfd d) : asmL (prV d :: ls) k ds ps = asmL ls (k + 1) (ds ++ [(d, k)]) ps := by
  obtain ⟨c, t, e, _⟩ := pr_head d h
  rw [asmL, if_neg (by rw [e]; simp), if_neg (fun e => pr_no d h 58 (.inr rfl) (List.mem_of_getLast? e)), read_pr d h]

/-- Instructions as text, a line each. -/
def textV : List Dr → By
  | [] => []
  | d :: l => prV d ++ 10 :: textV l

/-- Only drafts without places: their instructions. -/
theorem fin_all (rt : Dr → Bool) (ps : Places) : ∀ (ds : Drafts) (i : Nat), (∀ x ∈ ds, x.1.pl = [] ∧ rt x.1 = true) → finV rt ps i ds = .ok (ds.map (·.1))
  | [], _, _ => rfl
  | (d, k) :: ds, i, h => by
    obtain ⟨h1, h2⟩ := h (d, k) (by simp)
    rw [finV, if_pos h1, if_pos h2, fin_all rt ps ds (i + 1) (fun x hx => h x (by simp [hx]))]
    rfl

/-- The lines of a text of instructions, the last one empty, with what comes behind. -/
theorem lines_text : ∀ (l : List Dr) (t : By), (∀ d ∈ l, Wfd d) → linesV (textV l ++ t) = l.map prV ++ linesV t
  | [], _, _ => rfl
  | d :: l, t, h => by
    have hd := h d (by simp)
    have e : textV (d :: l) ++ t = prV d ++ 10 :: (textV l ++ t) := by simp [textV]
    rw [e]
    unfold linesV
    rw [splitC_some _ _ _ (pr_no d hd 10 (.inl rfl))]
    have := trim_pr d hd 0 0
    simp only [List.replicate_zero, List.nil_append, List.append_nil] at this
    rw [List.map_cons, this, List.map_cons, List.cons_append]
    congr 1
    exact lines_text l t (fun x hx => h x (by simp [hx]))

theorem asm_insts : ∀ (l : List Dr) (ls : List By) (k : Nat) (ds : Drafts) (ps : Places), (∀ d ∈ l, Wfd d) → ∃ es : Drafts, es.map (·.1) = l ∧ asmL (l.map prV ++ ls) k ds ps = asmL ls (k + l.length) (ds ++ es) ps
  | [], ls, k, ds, ps, _ => ⟨[], rfl, by simp⟩
  | d :: l, ls, k, ds, ps, h => by
    obtain ⟨es, h1, h2⟩ := asm_insts l ls (k + 1) (ds ++ [(d, k)]) ps (fun x hx => h x (by simp [hx]))
    refine ⟨(d, k) :: es, by simp [h1], ?_⟩
    rw [List.map_cons, List.cons_append, asmL_inst _ _ _ _ d (h d (by simp)), h2]
    simp [Nat.add_assoc, Nat.add_comm 1]

/-- What instructions are written as are these instructions. -/
theorem asm_text (rt : Dr → Bool) (l : List Dr) (h : ∀ d ∈ l, Wfd d) (hr : ∀ d ∈ l, rt d = true) (hp : ∀ d ∈ l, d.pl = []) : asmV rt (textV l) = .ok l := by
  have e0 := lines_text l [] h
  rw [List.append_nil] at e0
  have e1 : linesV [] = [[]] := rfl
  obtain ⟨es, h1, h2⟩ := asm_insts l [[]] 0 [] [] h
  unfold asmV
  rw [e0, e1, h2, asmL_blank, asmL]
  dsimp only
  rw [List.nil_append, fin_all rt [] es 0 ?_, h1]
  intro x hx
  have : x.1 ∈ l := by rw [← h1]; exact List.mem_map_of_mem hx
  exact ⟨hp _ this, hr _ this⟩

/-- Line feeds with blanks ahead and another one behind. -/
def widen (s : By) : By := s.flatMap fun c => if c = 10 then [32, 32, 10, 10] else [c]

theorem widen_no : ∀ s : By, (10 : UInt8) ∉ s → widen s = s
  | [], _ => rfl
  | c :: t, h => by
    simp only [List.mem_cons, not_or] at h
    have := widen_no t h.2
    unfold widen at this ⊢
    rw [List.flatMap_cons, if_neg (Ne.symm h.1), this]
    rfl
theorem widen_append (s t : By) : widen (s ++ t) = widen s ++ widen t := by unfold widen; rw [List.flatMap_append]

/-- The lines of a widened text of instructions behind two blanks. -/
theorem lines_wide : ∀ (l : List Dr) (t : By) (n : Nat), (∀ d ∈ l, Wfd d) → ∃ ls m, linesV (List.replicate n 32 ++ (widen (textV l) ++ t)) = ls ++ linesV (List.replicate m 32 ++ t) ∧ (l ≠ [] → m = 0) ∧ (l = [] → m = n) ∧ ls = l.flatMap (fun d => [prV d, []])
  | [], t, n, _ => ⟨[], n, rfl, fun h => absurd rfl h, fun _ => rfl, rfl⟩
  | d :: l, t, n, h => by
    have hd := h d (by simp)
    have hno := pr_no d hd 10 (.inl rfl)
    obtain ⟨ls, m, h1, h2, h3, h4⟩ := lines_wide l t 0 (fun x hx => h x (by simp [hx]))
    have em : m = 0 := by
      by_cases e : l = []
      · exact h3 e
      · exact h2 e
    refine ⟨prV d :: [] :: ls, 0, ?_, fun _ => rfl, fun e => by simp at e, by rw [h4]; rfl⟩
    have e : List.replicate n 32 ++ (widen (textV (d :: l)) ++ t) = (List.replicate n 32 ++ prV d ++ List.replicate 2 32) ++ 10 :: ([] ++ 10 :: (widen (textV l) ++ t)) := by
      have e5 : widen (10 :: textV l) = [32, 32, 10, 10] ++ widen (textV l) := by unfold widen; rw [List.flatMap_cons, if_pos rfl]
      rw [textV, widen_append, widen_no _ hno, e5]
      simp [List.replicate_succ]
    rw [e]
    unfold linesV at h1 ⊢
    rw [splitC_some _ _ _ (by simp [hno, List.mem_replicate]), splitC_some _ _ _ (by simp), List.map_cons, List.map_cons, trim_pr d hd n 2]
    rw [em] at h1
    simp only [List.replicate_zero, List.nil_append] at h1 ⊢
    rw [h1]
    rfl

theorem asm_wide : ∀ (l : List Dr) (ls : List By) (k : Nat) (ds : Drafts) (ps : Places), (∀ d ∈ l, Wfd d) → ∃ es : Drafts, es.map (·.1) = l ∧ ∃ k', asmL (l.flatMap (fun d => [prV d, []]) ++ ls) k ds ps = asmL ls k' (ds ++ es) ps
  | [], ls, k, ds, ps, _ => ⟨[], rfl, k, by simp⟩
  | d :: l, ls, k, ds, ps, h => by
    obtain ⟨es, h1, k', h2⟩ := asm_wide l ls (k + 1 + 1) (ds ++ [(d, k)]) ps (fun x hx => h x (by simp [hx]))
    refine ⟨(d, k) :: es, by simp [h1], k', ?_⟩
    rw [List.flatMap_cons, List.append_assoc, List.cons_append, asmL_inst _ _ _ _ d (h d (by simp)), List.cons_append, asmL_blank, List.nil_append, h2]
    simp

/-- Texts, one behind the other, are theirs, one behind the other. -/
theorem asm_two (rt : Dr → Bool) (l m : List Dr) (h : ∀ d ∈ l ++ m, Wfd d) (hr : ∀ d ∈ l ++ m, rt d = true) (hp : ∀ d ∈ l ++ m, d.pl = []) : asmV rt (32 :: 32 :: (widen (textV l) ++ textV m)) = .ok (l ++ m) := by
  have hl : ∀ d ∈ l, Wfd d := fun d hd => h d (by simp [hd])
  have hm : ∀ d ∈ m, Wfd d := fun d hd => h d (by simp [hd])
  obtain ⟨ls, k, e1, e2, e3, e4⟩ := lines_wide l (textV m) 2 hl
  have eL : (32 : UInt8) :: 32 :: (widen (textV l) ++ textV m) = List.replicate 2 32 ++ (widen (textV l) ++ textV m) := rfl
  -- the second text's lines, blanks ahead or none
  have e5 : linesV (List.replicate k 32 ++ textV m) = m.map prV ++ [[]] := by
    cases m with
    | nil =>
      have : linesV (List.replicate k 32 ++ textV []) = [trimV (List.replicate k 32)] := by
        unfold linesV
        rw [textV, List.append_nil, splitC_none _ _ (by simp [List.mem_replicate])]
        rfl
      rw [this]
      have := trim_about [] k 0 (by simp) (by simp)
      simp only [List.append_nil, List.replicate_zero] at this
      rw [this]
      rfl
    | cons d m =>
      have hd := hm d (by simp)
      have e : List.replicate k 32 ++ textV (d :: m) = (List.replicate k 32 ++ prV d ++ List.replicate 0 32) ++ 10 :: textV m := by simp [textV]
      have e6 := lines_text m [] (fun x hx => hm x (by simp [hx]))
      rw [List.append_nil] at e6
      rw [e]
      unfold linesV at e6 ⊢
      rw [splitC_some _ _ _ (by simp [pr_no d hd 10 (.inl rfl), List.mem_replicate]), List.map_cons, trim_pr d hd k 0, e6]
      rfl
  obtain ⟨es, h1, k', h2⟩ := asm_wide l (m.map prV ++ [[]]) 0 [] [] hl
  obtain ⟨es', h1', h2'⟩ := asm_insts m [[]] k' es [] hm
  unfold asmV
  rw [eL, e1, e5, e4, h2, List.nil_append, h2', asmL_blank, asmL]
  dsimp only
  rw [fin_all rt [] (es ++ es') 0 ?_, List.map_append, h1, h1']
  intro x hx
  have : x.1 ∈ l ++ m := by rw [← h1, ← h1', ← List.map_append]; exact List.mem_map_of_mem hx
  exact ⟨hp _ this, hr _ this⟩
end Go.Proofs.YtjjjdplgdlaihaaGreatDoor
