/- What is written is read as it was: a line. -/
import Derived.Test.YtjjjdplgdlaihaaGreatDoorN1
namespace Go.Proofs.YtjjjdplgdlaihaaGreatDoor
open Go

/-- A part, as it is read back. -/
def setV (d : Dr) (e : Dr) (k : UInt8) : Dr :=
  if k = 100 then { e with d := d.d } else if k = 97 then { e with a := d.a } else if k = 98 then { e with b := d.b } else if k = 40 then { e with n := d.n, a := d.a } else { e with n := d.n }

def kindOk (k : UInt8) : Bool := k == 100 || k == 97 || k == 98 || k == 40 || k == 58 || k == 110

theorem take_any (d e : Dr) (h : Okd d) (k : UInt8) (hk : kindOk k = true) : takeV k (prPart d k) e = some (setV d e k) := by
  simp only [kindOk, Bool.or_eq_true, beq_iff_eq] at hk
  rcases hk with ((((rfl | rfl) | rfl) | rfl) | rfl) | rfl
  · exact take_d d e h
  · exact take_a d e h
  · exact take_b d e h
  · exact take_m d e h
  · exact take_p d e h
  · exact take_n d e h

theorem parts_any (d : Dr) (h : Okd d) : ∀ (ks : By) (k : UInt8) (e : Dr), (∀ x ∈ k :: ks, kindOk x = true) → partsV (k :: ks) (prPart d k ++ prParts d ks false) e = some ((k :: ks).foldl (setV d) e)
  | [], k, e, hk => by
    have e1 : cutC 44 (prPart d k ++ prParts d [] false) = (prPart d k, [], false) := by
      simp only [prParts, List.append_nil]
      exact cutC_none _ _ (prPart_no d k 44 (.inl rfl))
    rw [partsV, e1]
    dsimp only
    rw [if_pos (by rfl), take_any d e h k (hk k (by simp))]
    dsimp only
    rw [partsV, if_pos rfl]
    rfl
  | k2 :: ks, k, e, hk => by
    have e1 : cutC 44 (prPart d k ++ prParts d (k2 :: ks) false) = (prPart d k, prPart d k2 ++ prParts d ks false, true) := by
      simp only [prParts]
      exact cutC_some _ _ _ (prPart_no d k 44 (.inl rfl))
    rw [partsV, e1]
    dsimp only
    rw [if_pos (by rfl), take_any d e h k (hk k (by simp))]
    dsimp only
    rw [parts_any d h ks k2 _ (fun x hx => hk x (by simp at hx ⊢; exact .inr hx))]
    rfl

/-- The ops' table: names without blanks, colons, line feeds; parts that there are. -/
theorem ops_ok : ∀ o, o < 32 → 1 ≤ o → opV (opsL.getD o ([], [])).1 = o ∧ (opsL.getD o ([], [])).1 ≠ [] ∧ ((opsL.getD o ([], [])).1.all fun c => decide (97 ≤ c.toNat) && decide (c.toNat ≤ 122)) = true ∧ ((opsL.getD o ([], [])).2.all kindOk) = true := by decide

theorem part_ne (d : Dr) (k : UInt8) : prPart d k ≠ [] := by
  unfold prPart
  split; · simp
  split; · simp
  split; · simp
  split; · simp
  exact itoa_ne _

/-- What is left of an instruction when its parts are read: it is it. -/
structure Wfd (d : Dr) : Prop where
  o1 : 1 ≤ d.o
  o2 : d.o ≤ 31
  ok : Okd d
  back : (opsL.getD d.o.toNat ([], [])).2.foldl (setV d) ⟨d.o, 0, 0, 0, 0, []⟩ = d

theorem read_pr (d : Dr) (h : Wfd d) : readV (prV d) = some d := by
  have hb := h.back
  obtain ⟨p1, p2, p3, p4⟩ := ops_ok d.o.toNat (by have := h.o2; omega) (by have := h.o1; omega)
  have ho : ((d.o.toNat : Nat) : Int) = d.o := by have := h.o1; omega
  unfold readV prV
  generalize hn : (opsL.getD d.o.toNat ([], [])).1 = name at *
  generalize hp : (opsL.getD d.o.toNat ([], [])).2 = parts at *
  have hno : (32 : UInt8) ∉ name := fun hm => by
    have := List.all_eq_true.1 p3 _ hm
    simp at this
  cases parts with
  | nil =>
    have e1 : cutC 32 (name ++ prParts d [] true) = (name, [], false) := by
      simp only [prParts, List.append_nil]
      exact cutC_none _ _ hno
    rw [e1]
    dsimp only
    rw [p1, if_neg (by have := h.o1; omega), hp, ho]
    simp only [trimL, List.dropWhile_nil, partsV]
    simpa using hb
  | cons k ks =>
    have e1 : cutC 32 (name ++ prParts d (k :: ks) true) = (name, prPart d k ++ prParts d ks false, true) := by
      simp only [prParts]
      exact cutC_some _ _ _ hno
    rw [e1]
    dsimp only
    rw [p1, if_neg (by have := h.o1; omega), hp, ho]
    have e2 : trimL (prPart d k ++ prParts d ks false) = prPart d k ++ prParts d ks false := by
      cases hc : prPart d k with
      | nil => exact absurd hc (part_ne d k)
      | cons c t =>
        have : c ≠ 32 := fun e => prPart_no d k 32 (by simp) (by rw [hc, e]; simp)
        unfold trimL
        rw [List.cons_append, List.dropWhile_cons_of_neg (by simpa using this)]
    rw [e2, parts_any d h.ok ks k _ (fun x hx => List.all_eq_true.1 p4 x hx), hb]

theorem parts_no (d : Dr) (c : UInt8) (h : c = 10 ∨ c = 58) : ∀ (ks : By) (f : Bool), c ∉ prParts d ks f
  | [], _ => by simp [prParts]
  | k :: ks, f => by
    have h1 := prPart_no d k c (by rcases h with rfl | rfl <;> simp)
    have h2 := parts_no d c h ks false
    have h3 : c ≠ 32 := by rcases h with rfl | rfl <;> decide
    have h4 : c ≠ 44 := by rcases h with rfl | rfl <;> decide
    cases f <;> simp [prParts, h1, h2, h3, h4]

/-- What is written has no line feed and no colon. -/
theorem pr_no (d : Dr) (h : Wfd d) (c : UInt8) (hc : c = 10 ∨ c = 58) : c ∉ prV d := by
  obtain ⟨p1, p2, p3, p4⟩ := ops_ok d.o.toNat (by have := h.o2; omega) (by have := h.o1; omega)
  unfold prV
  intro hm
  rcases List.mem_append.1 hm with hm | hm
  · have := List.all_eq_true.1 p3 _ hm
    rcases hc with rfl | rfl <;> simp at this
  · exact parts_no d c hc _ _ hm

/-- Its first sign is a letter. -/
theorem pr_head (d : Dr) (h : Wfd d) : ∃ c t, prV d = c :: t ∧ c ≠ 32 := by
  obtain ⟨p1, p2, p3, p4⟩ := ops_ok d.o.toNat (by have := h.o2; omega) (by have := h.o1; omega)
  unfold prV
  cases hn : (opsL.getD d.o.toNat ([], [])).1 with
  | nil => exact absurd hn p2
  | cons c t =>
    rw [hn] at p3
    refine ⟨c, t ++ prParts d (opsL.getD d.o.toNat ([], [])).2 true, rfl, fun e => ?_⟩
    subst e
    have := List.all_eq_true.1 p3 32 (by simp)
    simp at this

theorem part_last (d : Dr) (k : UInt8) : (prPart d k).getLast? ≠ some 32 := fun e => prPart_no d k 32 (by simp) (List.mem_of_getLast? e)
theorem parts_last (d : Dr) : ∀ (ks : By) (f : Bool), ks ≠ [] → (prParts d ks f).getLast? ≠ some 32 ∧ prParts d ks f ≠ []
  | [], _, h => absurd rfl h
  | [k], f, _ => by
    refine ⟨?_, by simp [prParts]⟩
    simp only [prParts, List.append_nil]
    rw [List.getLast?_cons]
    cases hc : (prPart d k).getLast? with
    | none => exact absurd (List.getLast?_eq_none_iff.1 hc) (part_ne d k)
    | some x =>
      have := part_last d k
      rw [hc] at this
      simpa using this
  | k :: k2 :: ks, f, _ => by
    obtain ⟨h1, h2⟩ := parts_last d (k2 :: ks) false (by simp)
    refine ⟨?_, by simp [prParts]⟩
    rw [prParts, List.getLast?_cons, List.getLast?_append]
    cases hc : (prParts d (k2 :: ks) false).getLast? with
    | none => exact absurd (List.getLast?_eq_none_iff.1 hc) h2
    | some x =>
      rw [hc] at h1
      simpa using h1

/-- Its last sign is no blank. -/
theorem pr_last (d : Dr) (h : Wfd d) : (prV d).getLast? ≠ some 32 := by
  obtain ⟨p1, p2, p3, p4⟩ := ops_ok d.o.toNat (by have := h.o2; omega) (by have := h.o1; omega)
  unfold prV
  rw [List.getLast?_append]
  cases hp : (opsL.getD d.o.toNat ([], [])).2 with
  | nil =>
    simp only [prParts, List.getLast?_nil, Option.none_or]
    intro e
    have := List.all_eq_true.1 p3 32 (List.mem_of_getLast? e)
    simp at this
  | cons k ks =>
    obtain ⟨h1, h2⟩ := parts_last d (k :: ks) true (by simp)
    cases hc : (prParts d (k :: ks) true).getLast? with
    | none => exact absurd (List.getLast?_eq_none_iff.1 hc) h2
    | some x =>
      rw [hc] at h1
      simpa using h1

/-- Blanks about a text that has none at its ends go. -/
theorem trim_about (s : By) (n k : Nat) (h1 : ∀ c t, s = c :: t → c ≠ 32) (h2 : s.getLast? ≠ some 32) : trimV (List.replicate n 32 ++ s ++ List.replicate k 32) = s := by
  have dw : ∀ (m : Nat) (t : By), (∀ c r, t = c :: r → c ≠ 32) → (List.replicate m (32 : UInt8) ++ t).dropWhile (· == 32) = t := fun m t ht => by
    induction m with
    | zero =>
      cases t with
      | nil => rfl
      | cons c r => simp only [List.replicate_zero, List.nil_append]; rw [List.dropWhile_cons_of_neg (by simpa using ht c r rfl)]
    | succ m ih => rw [List.replicate_succ, List.cons_append, List.dropWhile_cons_of_pos (by rfl)]; exact ih
  unfold trimV
  cases s with
  | nil =>
    simp only [List.append_nil]
    have : ∀ m : Nat, (List.replicate m (32 : UInt8)).dropWhile (· == 32) = [] := fun m => by simp
    rw [List.replicate_append_replicate, List.reverse_replicate, this]
    rfl
  | cons c t =>
    rw [List.reverse_append, List.reverse_replicate, List.reverse_append, List.reverse_replicate, dw k _ ?_, List.reverse_append, List.reverse_reverse, List.reverse_replicate, dw n _ (fun c' r e => h1 c' r e)]
    intro c' r e
    have : (c :: t).getLast? = some c' := by
      cases hr : (c :: t).reverse with
      | nil => simp at hr
      | cons x y =>
        rw [hr] at e
        simp only [List.cons_append] at e
        injection e with e1 _
        rw [← List.head?_reverse, hr, ← e1]
        rfl
    intro e'
    rw [this, e'] at h2
    exact h2 rfl
theorem trim_pr (d : Dr) (h : Wfd d) (n k : Nat) : trimV (List.replicate n 32 ++ prV d ++ List.replicate k 32) = prV d :=
  trim_about _ n k (fun c t e => by obtain ⟨c', t', e', hc⟩ := pr_head d h; rw [e] at e'; injection e' with e1 _; rw [e1]; exact hc) (pr_last d h)
end Go.Proofs.YtjjjdplgdlaihaaGreatDoor
