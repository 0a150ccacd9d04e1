/- A place is how far it is. -/
import Derived.Test.YtjjjdplgdlaihaaGreatDoorN3
import Derived.KernelRfl
namespace Go.Proofs.YtjjjdplgdlaihaaGreatDoor
open Go

def here : By := [104, 101, 114, 101]
def jl : By := [106, 97, 108, 32, 120, 49, 44, 104, 101, 114, 101]
/-- A jump to the place. -/
def J : Dr := ⟨30, 1, 0, 0, 0, here⟩
theorem read_jl : readV jl = some J := by kernel_rfl

/-- A line of this text: an instruction, or the jump. -/
def lineV (d : Dr) : By := if d.pl ≠ [] then jl else prV d
def okLine (d : Dr) : Prop := d = J ∨ (Wfd d ∧ d.pl = [])

theorem asmL_line (ls : List By) (k : Nat) (ds : Drafts) (ps : Places) (d : Dr) (h : okLine d) : asmL (lineV d :: ls) k ds ps = asmL ls (k + 1) (ds ++ [(d, k)]) ps := by
  by_cases hd : d = J
  · subst hd
    have e : lineV J = jl := if_pos (by decide)
    rw [e, asmL, if_neg (by decide), if_neg (by decide), read_jl]
  · rcases h with h | ⟨h, hpl⟩
    · exact absurd h hd
    · rw [lineV, if_neg (fun e => e hpl)]; exact asmL_inst ls k ds ps d h

theorem asm_lines : ∀ (l : List Dr) (ls : List By) (k : Nat) (ds : Drafts) (ps : Places), (∀ d ∈ l, okLine d) → ∃ es : Drafts, es.map (·.1) = l ∧ asmL (l.map lineV ++ ls) k ds ps = asmL ls (k + l.length) (ds ++ es) ps
  | [], ls, k, ds, ps, _ => ⟨[], rfl, by simp⟩
  | d :: l, ls, k, ds, ps, h => by
    obtain ⟨es, h1, h2⟩ := asm_lines l ls (k + 1) (ds ++ [(d, k)]) ps (fun x hx => h x (by simp [hx]))
    refine ⟨(d, k) :: es, by simp [h1], ?_⟩
    rw [List.map_cons, List.cons_append, asmL_line _ _ _ _ d (h d (by simp)), h2]
    simp [Nat.add_assoc, Nat.add_comm 1]

/-- Lines, a line feed behind each. -/
def linesT : List Dr → By
  | [] => []
  | d :: l => lineV d ++ 10 :: linesT l
theorem linesT_append (l m : List Dr) : linesT (l ++ m) = linesT l ++ linesT m := by
  induction l with
  | nil => rfl
  | cons d l ih => simp [linesT, ih]

theorem line_no (d : Dr) (h : okLine d) : (10 : UInt8) ∉ lineV d := by
  by_cases hd : d = J
  · subst hd
    have e : lineV J = jl := if_pos (by decide)
    rw [e]; decide
  · rcases h with h | ⟨h, hpl⟩
    · exact absurd h hd
    · rw [lineV, if_neg (fun e => e hpl)]; exact pr_no d h 10 (.inl rfl)
theorem line_trim (d : Dr) (h : okLine d) : trimV (lineV d) = lineV d := by
  by_cases hd : d = J
  · subst hd
    have e : lineV J = jl := if_pos (by decide)
    rw [e]; decide +kernel
  · rcases h with h | ⟨h, hpl⟩
    · exact absurd h hd
    · rw [lineV, if_neg (fun e => e hpl)]
      have := trim_pr d h 0 0
      simpa using this
theorem lines_T : ∀ (l : List Dr) (t : By), (∀ d ∈ l, okLine d) → linesV (linesT l ++ t) = l.map lineV ++ linesV t
  | [], _, _ => rfl
  | d :: l, t, h => by
    have hd := h d (by simp)
    have e : linesT (d :: l) ++ t = lineV d ++ 10 :: (linesT l ++ t) := by simp [linesT]
    rw [e]
    unfold linesV
    rw [splitC_some _ _ _ (line_no d hd), List.map_cons, line_trim d hd, List.map_cons, List.cons_append]
    congr 1
    exact lines_T l t (fun x hx => h x (by simp [hx]))

/-- The whole text: so many lines, the place, the others. -/
def placeT (l : List Dr) (to : Nat) : By := linesT (l.take to) ++ (here ++ 58 :: 10 :: linesT (l.drop to))

/-- What the jump comes to. -/
def jTo (n : Int) : Dr := ⟨30, 1, 0, 0, n, []⟩

theorem fin_place (rt : Dr → Bool) (to : Nat) : ∀ (ds : Drafts) (i : Nat), (∀ x ∈ ds, x.1 = J ∨ (x.1.pl = [] ∧ rt x.1 = true)) → (∀ j : Nat, j < i + ds.length → rt (jTo (4 * ((to : Int) - j))) = true) →
    ∃ ys : List Dr, finV rt [(here, to)] i ds = .ok ys ∧ ys.length = ds.length ∧ ∀ j (h : j < ds.length) (h' : j < ys.length), ys[j] = if (ds[j]).1.pl ≠ [] then jTo (4 * ((to : Int) - (i + j : Nat))) else (ds[j]).1
  | [], i, _, _ => ⟨[], rfl, rfl, fun j h _ => absurd h (Nat.not_lt_zero j)⟩
  | (d, k) :: ds, i, h, hr => by
    obtain ⟨ys, h1, h2, h3⟩ := fin_place rt to ds (i + 1) (fun x hx => h x (by simp [hx])) (fun j hj => hr j (by simp at hj ⊢; omega))
    have tl : ∀ y : Dr, (y = if d.pl ≠ [] then jTo (4 * ((to : Int) - (i : Nat))) else d) → ∀ j (hh : j < ((d, k) :: ds).length) (h' : j < (y :: ys).length), (y :: ys)[j] = if (((d, k) :: ds)[j]).1.pl ≠ [] then jTo (4 * ((to : Int) - (i + j : Nat))) else (((d, k) :: ds)[j]).1 := fun y hy j hh h' => by
      cases j with
      | zero => simpa using hy
      | succ j =>
        have := h3 j (by simpa using hh) (by simpa using h')
        simp only [List.getElem_cons_succ]
        rw [this]
        have e : ((i + 1 + j : Nat) : Int) = ((i + (j + 1) : Nat) : Int) := by omega
        rw [e]
    by_cases hd : d = J
    · have e1 : d.pl ≠ [] := by rw [hd]; decide
      have e2 : [(here, to)].lookup d.pl = some to := by
        rw [hd]
        have : J.pl = here := rfl
        rw [this]
        simp [List.lookup]
      have e3 : ({ d with n := 4 * ((to : Int) - i), pl := [] } : Dr) = jTo (4 * ((to : Int) - (i : Nat))) := by rw [hd]; rfl
      refine ⟨jTo (4 * ((to : Int) - (i : Nat))) :: ys, ?_, by simp [h2], tl _ (by rw [if_pos e1])⟩
      rw [finV, if_neg e1, e2]
      dsimp only
      rw [e3, if_pos (hr i (by simp)), h1]
      rfl
    · rcases h (d, k) (by simp) with hx | ⟨hx, hy⟩
      · exact absurd hx hd
      · refine ⟨d :: ys, ?_, by simp [h2], tl _ (by rw [if_neg (fun e => e hx)])⟩
        have hx' : d.pl = [] := hx
        have hy' : rt d = true := hy
        rw [finV, if_pos hx', if_pos hy', h1]
        rfl

/-- A jump to a place leads just there. -/
theorem asm_place (rt : Dr → Bool) (l : List Dr) (to : Nat) (ht : to ≤ l.length) (h : ∀ d ∈ l, d = J ∨ (Wfd d ∧ d.pl = [] ∧ rt d = true)) (hr : ∀ j : Nat, j < l.length → rt (jTo (4 * ((to : Int) - j))) = true) :
    ∃ ys : List Dr, asmV rt (placeT l to) = .ok ys ∧ ys.length = l.length ∧ ∀ j (hj : j < l.length) (h' : j < ys.length), ys[j] = if (l[j]).pl ≠ [] then jTo (4 * ((to : Int) - j)) else l[j] := by
  have ok : ∀ d ∈ l, okLine d := fun d hd => by
    rcases h d hd with h | ⟨h1, h2, _⟩
    · exact .inl h
    · exact .inr ⟨h1, h2⟩
  have o1 : ∀ d ∈ l.take to, okLine d := fun d hd => ok d (List.mem_of_mem_take hd)
  have o2 : ∀ d ∈ l.drop to, okLine d := fun d hd => ok d (List.mem_of_mem_drop hd)
  have e1 : linesV (placeT l to) = (l.take to).map lineV ++ ((here ++ [58]) :: ((l.drop to).map lineV ++ [[]])) := by
    unfold placeT
    rw [lines_T _ _ o1]
    congr 1
    have e2 : here ++ 58 :: 10 :: linesT (l.drop to) = (here ++ [58]) ++ 10 :: linesT (l.drop to) := by simp
    have e3 := lines_T (l.drop to) [] o2
    rw [List.append_nil] at e3
    rw [e2]
    unfold linesV at e3 ⊢
    rw [splitC_some _ _ _ (by decide), List.map_cons, e3]
    rfl
  obtain ⟨es, h1, h2⟩ := asm_lines (l.take to) ((here ++ [58]) :: ((l.drop to).map lineV ++ [[]])) 0 [] [] o1
  have hes : es.length = to := by have := congrArg List.length h1; simp at this; omega
  obtain ⟨es', h1', h2'⟩ := asm_lines (l.drop to) [[]] (0 + (l.take to).length + 1) es [(here, to)] o2
  have e5 : asmL (linesV (placeT l to)) 0 [] [] = .ok (es ++ es', [(here, to)]) := by
    rw [e1, h2, List.nil_append, asmL, if_neg (by decide), if_pos (by decide)]
    have e6 : (here ++ [58]).dropLast = here := by decide
    rw [e6, if_neg (by decide), if_neg (by simp), hes, h2', asmL_blank, asmL]
  have hall : (es ++ es').map (·.1) = l := by rw [List.map_append, h1, h1', List.take_append_drop]
  have hlen : (es ++ es').length = l.length := by have := congrArg List.length hall; simpa using this
  obtain ⟨ys, q1, q2, q3⟩ := fin_place rt to (es ++ es') 0 (fun x hx => by
    have : x.1 ∈ l := by rw [← hall]; exact List.mem_map_of_mem hx
    rcases h x.1 this with h | ⟨_, h2, h3⟩
    · exact .inl h
    · exact .inr ⟨h2, h3⟩) (fun j hj => hr j (by omega))
  refine ⟨ys, ?_, by omega, fun j hj h' => ?_⟩
  · unfold asmV; rw [e5]; exact q1
  · have := q3 j (by omega) h'
    have e7 : ((es ++ es')[j]'(by omega)).1 = l[j] := by
      have : ((es ++ es').map (·.1))[j]'(by rw [hall]; exact hj) = l[j] := by simp only [hall]
      rw [List.getElem_map] at this
      exact this
    rw [e7] at this
    rw [this]
    simp
end Go.Proofs.YtjjjdplgdlaihaaGreatDoor
