/- The parser's held and index, walked, over what bin does. -/
import Derived.Test.YtpakgaegckkmnaaGreatDoorTA
namespace Go.Proofs.YtpakgaegckkmnaaGreatDoor
set_option linter.unusedVariables false
set_option linter.unusedSimpArgs false
open Go Go.RowKit

/-- A fixed token that stands there is taken. -/
theorem need_at {w : World} {P T o c d : Nat} {l : List Tok} (h : At w P T o c d l) (x : ByteArray) (hx : (hd l).t = x.data.toList) (hne : x.data.toList ≠ []) :
    (∀ W, PS W P T o c l → Gr P w W → Calls Tryz.prog 43 #[.pointer (some ⟨P, 0, none⟩), .string x] W fun e w' => e = .returned (.tuple #[]) ∧ PS w' P T (o + 3) (c - 1) l.tail ∧ Gr P w w') ∧ Ends l.tail ∧ l.tail.length < l.length := by
  obtain ⟨e1, e2, e3, e4⟩ := h.ends.tail (by rw [hx]; exact hne)
  refine ⟨fun W hp hg => ?_, e1, e4⟩
  have hp' : PS W P T o c (hd l :: l.tail) := by rw [← e3]; exact hp
  exact (need_yes W P T o c (hd l) l.tail hp' e2 x hx).mono fun e w' ⟨a, b, g⟩ => ⟨a, b, hg.trans g⟩
theorem need_bad {P T o c : Nat} {w : World} {l : List Tok} (he : Ends l) (x : ByteArray) (hx : (hd l).t ≠ x.data.toList) (W : World) (hp : PS W P T o c l) (hg : Gr P w W) :
    Calls Tryz.prog 43 #[.pointer (some ⟨P, 0, none⟩), .string x] W fun e w' => Threw 3 (hd l).p e w' ∧ Gr P w w' := by
  have hp' : PS W P T o c (hd l :: l.tail) := by rw [← he.cons]; exact hp
  exact (need_no W P T o c (hd l) l.tail hp' x hx).mono fun e w' ⟨a, b⟩ => ⟨a, hg.trans (gr_below b)⟩
theorem ex_kept {S : Nat → Prop} {P T o c : Nat} {w w' : World} {l : List Tok} {t : Tr} {v : Value} (hp : PS w P T o c l) (hg : Gr P w w') (h : ExAt S w t v) : ExAt S w' t v := ExAt.kept (fun b cs t _ => gr_keeps hp.own hg b cs t) t v h

set_option maxRecDepth 100000 in
set_option maxHeartbeats 4000000 in
/-- held and index: F, the mark ahead (held alone) and the mark behind. -/
theorem held_walk (n : Nat) (IH : BinC n) (d : Nat) (w : World) (P T o c : Nat) (l : List Tok) (h : At w P T o c d l) (hn : 12 * l.length ≤ n + 1) :
    Calls Tryz.prog 80 #[.pointer (some ⟨P, 0, none⟩), .int .i64 (d : Int)] w (ExPost w P T (exV (n + 1) 5 0 d .nil 0 l)) := by
  by_cases h40 : (hd l).t = [40]
  · obtain ⟨hN1, he1, hlt1⟩ := need_at h ⟨#[40]⟩ h40 (by decide)
    have HN1 : Hid (Calls Tryz.prog 43 #[.pointer (some ⟨P, 0, none⟩), .string ⟨#[40]⟩] w fun e w' => e = .returned (.tuple #[]) ∧ PS w' P T (o + 3) (c - 1) l.tail ∧ Gr P w w') := hN1 w h.ps (Gr.refl _ _)
    have hdeep := h.deep
    have HEx : Hid (∀ w1, PS w1 P T (o + 3) (c - 1) l.tail → Gr P w w1 → Calls Tryz.prog 79 #[.pointer (some ⟨P, 0, none⟩), .int .i64 ((d : Int) + 1)] w1 (ExPost w1 P T (exV n 0 1 (d + 1) .nil 0 l.tail))) := fun w1 hp hg => by
      have := expr_walk n IH (d + 1) w1 P T (o + 3) (c - 1) l.tail ⟨h.env.gr hg h.far, hp, he1, h.far, by omega⟩ (by omega)
      rw [show ((d + 1 : Nat) : Int) = (d : Int) + 1 by omega] at this
      exact this
    have hM : exV (n + 1) 5 0 d .nil 0 l = bnd (exV n 0 1 (d + 1) .nil 0 l.tail) fun y l2 => bnd (needV [41] l2) fun _ l3 => .ok (y, l3) := by
      rw [exV]
      unfold needV
      rw [if_pos h40]
      rfl
    rw [hM]
    have hfar := h.far
    have hd2 : d ≤ 100000 := by omega
    cases hr : exV n 0 1 (d + 1) .nil 0 l.tail with
    | error kp =>
      obtain ⟨k, p⟩ := kp
      have HPo : Hid (∀ e w', Threw k p e w' ∧ Gr P w w' → ExPost w P T (bnd (.error (k, p)) fun (y : Tr) l2 => bnd (needV [41] l2) fun _ l3 => .ok (y, l3)) e w') := fun e w' h => h
      have HE2 : Hid (∀ w1, PS w1 P T (o + 3) (c - 1) l.tail → Gr P w w1 → Calls Tryz.prog 79 #[.pointer (some ⟨P, 0, none⟩), .int .i64 ((d : Int) + 1)] w1 fun e w' => Threw k p e w' ∧ Gr P w w') := fun w1 hp hg => by
        have := HEx.out w1 hp hg
        rw [hr] at this
        exact this.mono fun e w' h => ExPost.back hg h
      clear h h40 hN1 he1 hlt1 hdeep HEx hM hr hfar hn IH
      go_enter Tryz.func80, Tryz.ntmps80
      go_wp2_with (first
        | (go_at_call 43; refine HN1.out.mono ?_; rintro e w1 ⟨rfl, hp, hg⟩; have HP1 : Hid (PS w1 P T (o + 3) (c - 1) l.tail) := hp; have HG1 : Hid (Gr P w w1) := hg; clear hp hg)
        | (go_at_call 79; refine (HE2.out _ HP1.out HG1.out).mono ?_; rintro e w2 ⟨⟨a, rfl, ha⟩, hg⟩; have HA : Hid (w2.heap[a]? = some (.cells #[.int .i64 k, .int .i64 (p : Int)] 78)) := ha; have HG2 : Hid (Gr P w w2) := hg; clear ha hg))
      exact ⟨rfl, HPo.out _ _ ⟨⟨a, rfl, HA.out⟩, HG2.out⟩⟩
    | ok tl =>
      obtain ⟨t, l2⟩ := tl
      obtain ⟨he2, hlen2, _⟩ := ex_ends n 0 1 (d + 1) .nil 0 l.tail t l2 (fun _ => by omega) he1 hr
      have HE2 : Hid (∀ w1, PS w1 P T (o + 3) (c - 1) l.tail → Gr P w w1 → Calls Tryz.prog 79 #[.pointer (some ⟨P, 0, none⟩), .int .i64 ((d : Int) + 1)] w1 fun e w' => (∃ v o' c', e = .returned v ∧ ExAt (Fr w.heap.size) w' t v ∧ PS w' P T o' c' l2) ∧ Gr P w w') := fun w1 hp hg => by
        have := HEx.out w1 hp hg
        rw [hr] at this
        exact this.mono fun e w' h => ExPost.back hg h
      by_cases h41 : (hd l2).t = [41]
      · have HPo : Hid (∀ e w', ((∃ v o' c', e = .returned v ∧ ExAt (Fr w.heap.size) w' t v ∧ PS w' P T o' c' l2.tail) ∧ Gr P w w') → ExPost w P T (bnd (.ok (t, l2)) fun (y : Tr) l2 => bnd (needV [41] l2) fun _ l3 => .ok (y, l3)) e w') := fun e w' h => by
          show ExPost w P T (bnd (needV [41] l2) fun _ l3 => .ok (t, l3)) e w'
          unfold needV
          rw [if_pos h41]
          exact h
        obtain ⟨f1, f2, f3, f4⟩ := he2.tail (by rw [h41]; simp)
        have HN2 : Hid (∀ w2 o' c', PS w2 P T o' c' l2 → Gr P w w2 → Calls Tryz.prog 43 #[.pointer (some ⟨P, 0, none⟩), .string ⟨#[41]⟩] w2 fun e w' => e = .returned (.tuple #[]) ∧ PS w' P T (o' + 3) (c' - 1) l2.tail ∧ Gr P w2 w' ∧ Gr P w w') := fun w2 o' c' hp hg => by
          have hp' : PS w2 P T o' c' (hd l2 :: l2.tail) := by rw [← f3]; exact hp
          exact (need_yes w2 P T o' c' (hd l2) l2.tail hp' f2 ⟨#[41]⟩ h41).mono fun e w' ⟨a, b, g⟩ => ⟨a, b, g, hg.trans g⟩
        clear h h40 hN1 he1 hlt1 hdeep HEx hM hr hfar hn IH h41 he2 hlen2 f1 f2 f3 f4
        go_enter Tryz.func80, Tryz.ntmps80
        go_wp2_with (go_at_call 43; fail)
        refine HN1.out.mono ?_
        rintro e w1 ⟨rfl, hp1, hg1⟩
        have HP1 : Hid (PS w1 P T (o + 3) (c - 1) l.tail) := hp1
        have HG1 : Hid (Gr P w w1) := hg1
        clear hp1 hg1
        go_wp2_with (go_at_call 79; fail)
        refine (HE2.out _ HP1.out HG1.out).mono ?_
        rintro e w2 ⟨⟨v, o', c', rfl, hx2, hp2⟩, hg2⟩
        have HX2 : Hid (ExAt (Fr w.heap.size) w2 t v) := hx2
        have HP2 : Hid (PS w2 P T o' c' l2) := hp2
        have HG2 : Hid (Gr P w w2) := hg2
        clear hx2 hp2 hg2
        go_wp2_with (go_at_call 43; fail)
        refine (HN2.out _ _ _ HP2.out HG2.out).mono ?_
        rintro e w3 ⟨rfl, hp3, hg3, hg4⟩
        have HX3 : Hid (ExAt (Fr w.heap.size) w3 t v) := ex_kept HP2.out hg3 HX2.out
        have HP3 : Hid (PS w3 P T (o' + 3) (c' - 1) l2.tail) := hp3
        have HG3 : Hid (Gr P w w3) := hg4
        clear hp3 hg3 hg4
        go_wp2
        go_ret
        exact HPo.out _ _ ⟨⟨v, _, _, rfl, HX3.out, HP3.out⟩, HG3.out⟩
      · have HPo : Hid (∀ e w', Threw 3 (hd l2).p e w' ∧ Gr P w w' → ExPost w P T (bnd (.ok (t, l2)) fun (y : Tr) l2 => bnd (needV [41] l2) fun _ l3 => .ok (y, l3)) e w') := fun e w' h => by
          show ExPost w P T (bnd (needV [41] l2) fun _ l3 => .ok (t, l3)) e w'
          unfold needV
          rw [if_neg h41]
          exact h
        have HN2 : Hid (∀ w2 o' c', PS w2 P T o' c' l2 → Gr P w w2 → Calls Tryz.prog 43 #[.pointer (some ⟨P, 0, none⟩), .string ⟨#[41]⟩] w2 fun e w' => Threw 3 (hd l2).p e w' ∧ Gr P w w') := fun w2 o' c' hp hg => need_bad he2 ⟨#[41]⟩ h41 w2 hp hg
        clear h h40 hN1 he1 hlt1 hdeep HEx hM hr hfar hn IH h41 he2 hlen2
        go_enter Tryz.func80, Tryz.ntmps80
        go_wp2_with (go_at_call 43; fail)
        refine HN1.out.mono ?_
        rintro e w1 ⟨rfl, hp1, hg1⟩
        have HP1 : Hid (PS w1 P T (o + 3) (c - 1) l.tail) := hp1
        have HG1 : Hid (Gr P w w1) := hg1
        clear hp1 hg1
        go_wp2_with (go_at_call 79; fail)
        refine (HE2.out _ HP1.out HG1.out).mono ?_
        rintro e w2 ⟨⟨v, o', c', rfl, hx2, hp2⟩, hg2⟩
        have HP2 : Hid (PS w2 P T o' c' l2) := hp2
        have HG2 : Hid (Gr P w w2) := hg2
        clear hx2 hp2 hg2
        go_wp2_with (go_at_call 43; fail)
        refine (HN2.out _ _ _ HP2.out HG2.out).mono ?_
        rintro e w3 ⟨⟨a, rfl, ha⟩, hg3⟩
        exact ⟨rfl, HPo.out _ _ ⟨⟨a, rfl, ha⟩, hg3⟩⟩
  · have HN1 : Hid (Calls Tryz.prog 43 #[.pointer (some ⟨P, 0, none⟩), .string ⟨#[40]⟩] w fun e w' => Threw 3 (hd l).p e w' ∧ Gr P w w') := need_bad h.ends ⟨#[40]⟩ h40 w h.ps (Gr.refl _ _)
    have HPo : Hid (∀ e w', Threw 3 (hd l).p e w' ∧ Gr P w w' → ExPost w P T (exV (n + 1) 5 0 d .nil 0 l) e w') := fun e w' h => by
      rw [exV]
      unfold needV
      rw [if_neg h40]
      exact h
    clear h h40 IH hn
    go_enter Tryz.func80, Tryz.ntmps80
    go_wp2_with (go_at_call 43; fail)
    refine HN1.out.mono ?_
    rintro e w3 ⟨⟨a, rfl, ha⟩, hg3⟩
    exact ⟨rfl, HPo.out _ _ ⟨⟨a, rfl, ha⟩, hg3⟩⟩

set_option maxRecDepth 100000 in
set_option maxHeartbeats 4000000 in
theorem index_walk (n : Nat) (IH : BinC n) (d : Nat) (w : World) (P T o c : Nat) (l : List Tok) (h : At w P T o c (d + 1) l) (hn : 12 * l.length + 9 ≤ n) :
    Calls Tryz.prog 92 #[.pointer (some ⟨P, 0, none⟩), .int .i64 (d : Int)] w (ExPost w P T (exV (n + 1) 6 0 d .nil 0 l)) := by
  have hdeep := h.deep
  have HEx : Hid (Calls Tryz.prog 79 #[.pointer (some ⟨P, 0, none⟩), .int .i64 ((d : Int) + 1)] w (ExPost w P T (exV n 0 1 (d + 1) .nil 0 l))) := by
    have := expr_walk n IH (d + 1) w P T o c l h hn
    rw [show ((d + 1 : Nat) : Int) = (d : Int) + 1 by omega] at this
    exact this
  have hM : exV (n + 1) 6 0 d .nil 0 l = bnd (exV n 0 1 (d + 1) .nil 0 l) fun y l2 => bnd (needV [93] l2) fun _ l3 => .ok (y, l3) := by rw [exV]
  rw [hM]
  have hd2 : d ≤ 100000 := by omega
  have he1 := h.ends
  cases hr : exV n 0 1 (d + 1) .nil 0 l with
  | error kp =>
    obtain ⟨k, p⟩ := kp
    have HPo : Hid (∀ e w', Threw k p e w' ∧ Gr P w w' → ExPost w P T (bnd (.error (k, p)) fun (y : Tr) l2 => bnd (needV [93] l2) fun _ l3 => .ok (y, l3)) e w') := fun e w' h => h
    rw [hr] at HEx
    have HE2 : Hid (Calls Tryz.prog 79 #[.pointer (some ⟨P, 0, none⟩), .int .i64 ((d : Int) + 1)] w fun e w' => Threw k p e w' ∧ Gr P w w') := HEx.out
    clear h hdeep HEx hM hr hn IH he1
    go_enter Tryz.func92, Tryz.ntmps92
    go_wp2_with (go_at_call 79; fail)
    refine HE2.out.mono ?_
    rintro e w3 ⟨⟨a, rfl, ha⟩, hg3⟩
    exact ⟨rfl, HPo.out _ _ ⟨⟨a, rfl, ha⟩, hg3⟩⟩
  | ok tl =>
    obtain ⟨t, l2⟩ := tl
    obtain ⟨he2, hlen2, _⟩ := ex_ends n 0 1 (d + 1) .nil 0 l t l2 (fun _ => by omega) he1 hr
    rw [hr] at HEx
    have HE2 : Hid (Calls Tryz.prog 79 #[.pointer (some ⟨P, 0, none⟩), .int .i64 ((d : Int) + 1)] w fun e w' => (∃ v o' c', e = .returned v ∧ ExAt (Fr w.heap.size) w' t v ∧ PS w' P T o' c' l2) ∧ Gr P w w') := HEx.out
    by_cases h41 : (hd l2).t = [93]
    · have HPo : Hid (∀ e w', ((∃ v o' c', e = .returned v ∧ ExAt (Fr w.heap.size) w' t v ∧ PS w' P T o' c' l2.tail) ∧ Gr P w w') → ExPost w P T (bnd (.ok (t, l2)) fun (y : Tr) l2 => bnd (needV [93] l2) fun _ l3 => .ok (y, l3)) e w') := fun e w' h => by
        show ExPost w P T (bnd (needV [93] l2) fun _ l3 => .ok (t, l3)) e w'
        unfold needV
        rw [if_pos h41]
        exact h
      obtain ⟨f1, f2, f3, f4⟩ := he2.tail (by rw [h41]; simp)
      have HN2 : Hid (∀ w2 o' c', PS w2 P T o' c' l2 → Gr P w w2 → Calls Tryz.prog 43 #[.pointer (some ⟨P, 0, none⟩), .string ⟨#[93]⟩] w2 fun e w' => e = .returned (.tuple #[]) ∧ PS w' P T (o' + 3) (c' - 1) l2.tail ∧ Gr P w2 w' ∧ Gr P w w') := fun w2 o' c' hp hg => by
        have hp' : PS w2 P T o' c' (hd l2 :: l2.tail) := by rw [← f3]; exact hp
        exact (need_yes w2 P T o' c' (hd l2) l2.tail hp' f2 ⟨#[93]⟩ h41).mono fun e w' ⟨a, b, g⟩ => ⟨a, b, g, hg.trans g⟩
      clear h hdeep HEx hM hr hn IH he1 h41 he2 hlen2 f1 f2 f3 f4
      go_enter Tryz.func92, Tryz.ntmps92
      go_wp2_with (go_at_call 79; fail)
      refine HE2.out.mono ?_
      rintro e w2 ⟨⟨v, o', c', rfl, hx2, hp2⟩, hg2⟩
      have HX2 : Hid (ExAt (Fr w.heap.size) w2 t v) := hx2
      have HP2 : Hid (PS w2 P T o' c' l2) := hp2
      have HG2 : Hid (Gr P w w2) := hg2
      clear hx2 hp2 hg2
      go_wp2_with (go_at_call 43; fail)
      refine (HN2.out _ _ _ HP2.out HG2.out).mono ?_
      rintro e w3 ⟨rfl, hp3, hg3, hg4⟩
      have HX3 : Hid (ExAt (Fr w.heap.size) w3 t v) := ex_kept HP2.out hg3 HX2.out
      have HP3 : Hid (PS w3 P T (o' + 3) (c' - 1) l2.tail) := hp3
      have HG3 : Hid (Gr P w w3) := hg4
      clear hp3 hg3 hg4
      go_wp2
      go_ret
      exact HPo.out _ _ ⟨⟨v, _, _, rfl, HX3.out, HP3.out⟩, HG3.out⟩
    · have HPo : Hid (∀ e w', Threw 3 (hd l2).p e w' ∧ Gr P w w' → ExPost w P T (bnd (.ok (t, l2)) fun (y : Tr) l2 => bnd (needV [93] l2) fun _ l3 => .ok (y, l3)) e w') := fun e w' h => by
        show ExPost w P T (bnd (needV [93] l2) fun _ l3 => .ok (t, l3)) e w'
        unfold needV
        rw [if_neg h41]
        exact h
      have HN2 : Hid (∀ w2 o' c', PS w2 P T o' c' l2 → Gr P w w2 → Calls Tryz.prog 43 #[.pointer (some ⟨P, 0, none⟩), .string ⟨#[93]⟩] w2 fun e w' => Threw 3 (hd l2).p e w' ∧ Gr P w w') := fun w2 o' c' hp hg => need_bad he2 ⟨#[93]⟩ h41 w2 hp hg
      clear h hdeep HEx hM hr hn IH he1 h41 he2 hlen2
      go_enter Tryz.func92, Tryz.ntmps92
      go_wp2_with (go_at_call 79; fail)
      refine HE2.out.mono ?_
      rintro e w2 ⟨⟨v, o', c', rfl, hx2, hp2⟩, hg2⟩
      have HP2 : Hid (PS w2 P T o' c' l2) := hp2
      have HG2 : Hid (Gr P w w2) := hg2
      clear hx2 hp2 hg2
      go_wp2_with (go_at_call 43; fail)
      refine (HN2.out _ _ _ HP2.out HG2.out).mono ?_
      rintro e w3 ⟨⟨a, rfl, ha⟩, hg3⟩
      exact ⟨rfl, HPo.out _ _ ⟨⟨a, rfl, ha⟩, hg3⟩⟩
end Go.Proofs.YtpakgaegckkmnaaGreatDoor
