/- Parse walked. -/
import Derived.Test.YtpakgaegckkmnaaGreatDoorUJ
namespace Go.Proofs.YtpakgaegckkmnaaGreatDoor
set_option linter.unusedVariables false
set_option linter.unusedSimpArgs false
open Go Go.RowKit

theorem one_kind {rest : By} {k : Nat} {t : By} (h : oneTok rest = some (k, t)) : k ≤ 2 := by
  unfold oneTok at h
  split at h
  · injection h with h
    injection h with h _
    omega
  · split at h
    · injection h with h
      injection h with h _
      split at h <;> omega
    · obtain ⟨m, hm, he⟩ := Option.map_eq_some_iff.1 h
      injection he with he _
      omega
theorem cut_ends (n : Nat) : ∀ (f : Nat) (rest : By) (l r : List Tok), rest.length + 1 ≤ f → rest.length ≤ 1000000 → (∀ x ∈ l, x.k ≠ 3 ∧ x.t ≠ [] ∧ x.t.length ≤ 1000000) → l.length ≤ 1500 → cutV n f rest l = .ok r → Ends r ∧ r.length ≤ 1501
  | 0, rest, l, r, h1, h2, h3, h4, h => by omega
  | f + 1, rest, l, r, h1, h2, h3, h4, h => by
    rw [cutV] at h
    split at h
    · injection h with h
      subst h
      exact ⟨⟨l, ⟨3, [], n⟩, rfl, rfl, rfl, h3⟩, by simp; omega⟩
    · split at h
      · cases h
      · rename_i k t ho
        split at h
        · cases h
        · rename_i hl
          obtain ⟨p1, p2⟩ := one_pos ho
          have pk := one_kind ho
          have hs := skip_len false (rest.drop t.length)
          rw [List.length_drop] at hs
          refine cut_ends n f _ _ r (by omega) (by omega) (fun x hx => ?_) (by simp; omega) h
          rcases List.mem_append.1 hx with hx | hx
          · exact h3 x hx
          · rw [List.mem_singleton] at hx
            subst hx
            exact ⟨by show k ≠ 3; omega, by show t ≠ []; intro e; rw [e] at p1; simp at p1, by show t.length ≤ _; omega⟩
theorem tok_ends {s : By} {r : List Tok} (h : tokV s = .ok r) (hs : s.length ≤ 1000000) : Ends r ∧ r.length ≤ 1501 := by
  have h1 := skip_len false s
  exact cut_ends s.length _ _ [] r (by omega) (by omega) (by simp) (by simp) h
/-- A program, read from a text. -/
def parseV (s : By) : Except (Int × Nat) Tr :=
  match tokV s with
  | .error e => .error e
  | .ok l => match progV (l.length + 1) 0 l with
    | .error e => .error e
    | .ok (t, _) => .ok t
/-- What Parse leaves. -/
def ParsePost (w : World) (r : Except (Int × Nat) Tr) (e : Ending) (w' : World) : Prop :=
  match r with
  | .ok t => (∃ v n cs, e = .returned (.tuple #[v, .nilIface]) ∧ w'.ownsRow w.heap.size 41 4 v n cs ∧ FnAt (Fr w.heap.size) w' t cs) ∧ Below w.heap.size w w'
  | .error (k, p) => (∃ a, e = .returned (.tuple #[.slice none 0 0, .iface 43 (.pointer (some ⟨a, 0, none⟩))]) ∧ w'.heap[a]? = some (.cells #[.int .i64 k, .int .i64 (p : Int)] 78)) ∧ Below w.heap.size w w'
theorem Env.lt {w : World} (h : Env w) : 11 ≤ w.heap.size := by
  obtain ⟨c, d, hr⟩ := h.rng
  unfold World.var? at hr
  simp only [gRng, Option.bind_some] at hr
  rcases Nat.lt_or_ge 10 w.heap.size with h1 | h1
  · omega
  · rw [Array.getElem?_eq_none h1] at hr; simp at hr

theorem tkc_get : ∀ (l : List Tok) (j : Nat) (t : Tok), l[j]? = some t → (tkc l)[j * 3]? = some (.int .i64 (t.k : Int)) ∧ (tkc l)[j * 3 + 1]? = some (str t.t) ∧ (tkc l)[j * 3 + 2]? = some (.int .i64 (t.p : Int))
  | [], j, t, h => by simp at h
  | x :: l, 0, t, h => by
    simp at h
    subst h
    exact ⟨rfl, rfl, rfl⟩
  | x :: l, j + 1, t, h => by
    have ih := tkc_get l j t (by simpa using h)
    have e : ∀ i, (tkc (x :: l))[i + 3]? = (tkc l)[i]? := fun i => rfl
    rw [show (j + 1) * 3 = j * 3 + 3 by omega, show j * 3 + 3 + 1 = j * 3 + 1 + 3 by omega, show j * 3 + 3 + 2 = j * 3 + 2 + 3 by omega, e, e, e]
    exact ih
theorem ps_of {w : World} {B T c : Nat} {l : List Tok} (h : w.ownsRow B 75 3 (.slice (some ⟨T, 0, none⟩) l.length c) l.length (tkc l)) : PS (w.alloc (.cells #[.slice (some ⟨T, 0, none⟩) l.length c] 49)) w.heap.size T 0 c l := by
  rcases h.2 with ⟨h1, _⟩ | ⟨g, cap, cur, hv, hb, hg, hn, hm, hs, ht⟩
  · cases h1
  · injection hv with hv1 _ hv3
    injection hv1 with hv1
    injection hv1 with hv1
    subst hv1
    subst hv3
    have hlt : T < w.heap.size := (Array.getElem?_eq_some_iff.1 hg).1
    refine ⟨heap_alloc_last w _, hn, by omega, fun j t hj => ?_⟩
    have hjl : j < l.length := (List.getElem?_eq_some_iff.1 hj).1
    obtain ⟨a, b, d⟩ := tkc_get l j t hj
    have hc : ∀ i v, i < l.length * 3 → (tkc l)[i]? = some v → (w.alloc (.cells #[.slice (some ⟨T, 0, none⟩) l.length c] 49)).cell? ⟨T, 0 + i, none⟩ = some v := fun i v hi hv => by
      rw [Nat.zero_add]
      refine cell_at (row_alloc hg _) ?_
      rw [← ht, List.getElem?_take_of_lt hi, Array.getElem?_toList] at hv
      exact hv
    have h1 := hc (j * 3) _ (by omega) a
    have h2 := hc (j * 3 + 1) _ (by omega) b
    have h3 := hc (j * 3 + 2) _ (by omega) d
    exact ⟨h1, h2, h3⟩
theorem gr_to_below {P B : Nat} {a b : World} (h : Gr P a b) (hP : B ≤ P) (hB : B ≤ a.heap.size) : Below B a b := ⟨h.os, h.tape, h.output, h.size, fun k hk => h.block k (by omega) (by intro e; injection e with e; omega)⟩
theorem res8 (tmps : Array Value) (W : World) (b1 b2 : Nat) (x y : Value) (hp1 : tmps[2]?.getD undef = .pointer (some ⟨b1, 0, none⟩)) (hp2 : tmps[3]?.getD undef = .pointer (some ⟨b2, 0, none⟩)) (h1 : W.cell? ⟨b1, 0, none⟩ = some x) (h2 : W.cell? ⟨b2, 0, none⟩ = some y) :
    (results Tryz.f8 tmps).run Tryz.prog W = .ok (.tuple #[x, y]) W := by
  simp [results, Tryz.results8, go_sem, hp1, hp2, h1, h2]

set_option maxRecDepth 100000 in
set_option maxHeartbeats 4000000 in
theorem parse_any (s : ByteArray) (w : World) (he : Env w) (hs : s.size ≤ 1000000) : Calls Tryz.prog 8 #[.string s] w (ParsePost w (parseV s.data.toList)) := by
  have hmf : ∀ (fn : Fn) (first cap : Array Value) (w : World), (Instr.makeFunc fn first cap).run Tryz.prog w = .ok (.func fn first cap) w := fun _ _ _ _ => rfl
  obtain ⟨W0, hW0⟩ : ∃ W0, W0 = ((w.alloc (.cells #[.slice none 0 0] 23)).alloc (.cells #[.nilIface] 25)) := ⟨_, rfl⟩
  have hb0 : Below w.heap.size w W0 := by
    rw [hW0]
    exact ((Below.refl _ _).alloc (Nat.le_refl _) _).alloc (by simp) _
  have hz0 : W0.heap.size = w.heap.size + 2 := by rw [hW0]; simp
  have hl0 : W0.heap[w.heap.size]? = some (.cells #[.slice none 0 0] 23) := by
    rw [hW0]
    exact row_alloc (heap_alloc_last w _) _
  have he0 : W0.heap[w.heap.size + 1]? = some (.cells #[.nilIface] 25) := by
    rw [hW0]
    have := heap_alloc_last (w.alloc (.cells #[.slice none 0 0] 23)) (.cells #[.nilIface] 25)
    simpa using this
  have HCut : Hid (Calls Tryz.prog 15 #[.string s] W0 fun e w' => CutPost W0 (tokV s.data.toList) e w' ∧ Below W0.heap.size W0 w') := cut_any s W0 (he.below hb0) hs
  have HB0 : Hid (Below w.heap.size w W0) := hb0
  have HZ0 : Hid (W0.heap.size = w.heap.size + 2) := hz0
  have HL0 : Hid (W0.heap[w.heap.size]? = some (.cells #[.slice none 0 0] 23)) := hl0
  have HE0 : Hid (W0.heap[w.heap.size + 1]? = some (.cells #[.nilIface] 25)) := he0
  have HE : Hid (Env w) := he
  have HS : Hid (s.data.toList.length ≤ 1000000) := by show _ ≤ _; simpa using hs
  obtain ⟨sl, hsl⟩ : ∃ sl, sl = s.data.toList := ⟨_, rfl⟩
  rw [← hsl] at HCut HS ⊢
  have HG0 : Hid (∀ e w', ParsePost w (parseV sl) e w' → ParsePost w (parseV sl) e w') := fun _ _ h => h
  generalize hG : ParsePost w (parseV sl) = G at *
  clear HG0
  have HG0 : Hid (∀ e w', ParsePost w (parseV sl) e w' → G e w') := fun e w' h => by rw [← hG]; exact h
  clear he hs hb0 hz0 hl0 he0 hsl hG
  -- a panic's end
  have HEnd : Hid (∀ (k : Int) (p a : Nat) (W : World), W.heap[a]? = some (.cells #[.int .i64 k, .int .i64 (p : Int)] 78) → Below W0.heap.size W0 W → parseV sl = .error (k, p) →
      W.cell? ⟨w.heap.size, 0, none⟩ = some (.slice none 0 0) ∧ W.cell? ⟨w.heap.size + 1, 0, none⟩ = some .nilIface ∧ W.frozen? ⟨w.heap.size, 0, none⟩ = false ∧ W.frozen? ⟨w.heap.size + 1, 0, none⟩ = false ∧
      ((W.setCell ⟨w.heap.size, 0, none⟩ (.slice none 0 0)).setCell ⟨w.heap.size + 1, 0, none⟩ (.iface 43 (.pointer (some ⟨a, 0, none⟩)))).cell? ⟨w.heap.size, 0, none⟩ = some (.slice none 0 0) ∧
      ((W.setCell ⟨w.heap.size, 0, none⟩ (.slice none 0 0)).setCell ⟨w.heap.size + 1, 0, none⟩ (.iface 43 (.pointer (some ⟨a, 0, none⟩)))).cell? ⟨w.heap.size + 1, 0, none⟩ = some (.iface 43 (.pointer (some ⟨a, 0, none⟩))) ∧
      G (.returned (.tuple #[.slice none 0 0, .iface 43 (.pointer (some ⟨a, 0, none⟩))])) ((W.setCell ⟨w.heap.size, 0, none⟩ (.slice none 0 0)).setCell ⟨w.heap.size + 1, 0, none⟩ (.iface 43 (.pointer (some ⟨a, 0, none⟩))))) := fun k p a W ha hb hr => by
    have hz := HZ0.out
    have hl : W.heap[w.heap.size]? = some (.cells #[.slice none 0 0] 23) := by rw [hb.block _ (by omega)]; exact HL0.out
    have he : W.heap[w.heap.size + 1]? = some (.cells #[.nilIface] 25) := by rw [hb.block _ (by omega)]; exact HE0.out
    have n1 : a ≠ w.heap.size := fun e => by
      rw [e, hl] at ha
      injection ha with ha
      injection ha with _ h2
      exact absurd h2 (by decide)
    have n2 : a ≠ w.heap.size + 1 := fun e => by
      rw [e, he] at ha
      injection ha with ha
      injection ha with _ h2
      exact absurd h2 (by decide)
    have c1 := cell_at (i := 0) hl rfl
    have c2 := cell_at (i := 0) he rfl
    have l2 : (W.setCell ⟨w.heap.size, 0, none⟩ (.slice none 0 0)).heap[w.heap.size]? = some (.cells #[.slice none 0 0] 23) := heap_setCell_same _ _ _ _ _ _ hl
    have e2 : (W.setCell ⟨w.heap.size, 0, none⟩ (.slice none 0 0)).heap[w.heap.size + 1]? = some (.cells #[.nilIface] 25) := by
      rw [heap_setCell_other _ _ _ _ (by show w.heap.size + 1 ≠ w.heap.size; omega)]
      exact he
    have l3 : ((W.setCell ⟨w.heap.size, 0, none⟩ (.slice none 0 0)).setCell ⟨w.heap.size + 1, 0, none⟩ (.iface 43 (.pointer (some ⟨a, 0, none⟩)))).heap[w.heap.size]? = some (.cells #[.slice none 0 0] 23) := by
      rw [heap_setCell_other _ _ _ _ (by show w.heap.size ≠ w.heap.size + 1; omega)]
      exact l2
    have e3 : ((W.setCell ⟨w.heap.size, 0, none⟩ (.slice none 0 0)).setCell ⟨w.heap.size + 1, 0, none⟩ (.iface 43 (.pointer (some ⟨a, 0, none⟩)))).heap[w.heap.size + 1]? = some (.cells #[.iface 43 (.pointer (some ⟨a, 0, none⟩))] 25) := heap_setCell_same _ _ _ _ _ _ e2
    refine ⟨c1, c2, row_free hl 0, row_free he 0, cell_at (i := 0) l3 rfl, cell_at (i := 0) e3 rfl, HG0.out _ _ ?_⟩
    rw [hr]
    refine ⟨⟨a, rfl, ?_⟩, ?_⟩
    · rw [heap_setCell_other _ _ _ _ (by show a ≠ w.heap.size + 1; exact n2), heap_setCell_other _ _ _ _ (by show a ≠ w.heap.size; exact n1)]
      exact ha
    · exact ((HB0.out.trans (hb.mono (by omega))).setCell (p := ⟨w.heap.size, 0, none⟩) (Nat.le_refl _) _).setCell (p := ⟨w.heap.size + 1, 0, none⟩) (by show w.heap.size ≤ w.heap.size + 1; omega) _
  go_enter_defers Tryz.func8, Tryz.ntmps8
  go_wp2_with (go_at_call 15; fail)
  rw [← hW0]
  clear hW0
  refine HCut.out.mono ?_
  rintro e w1 ⟨hc, hb1⟩
  cases hr : tokV sl with
  | error kp =>
    obtain ⟨k, p⟩ := kp
    rw [hr] at hc
    obtain ⟨a, rfl, ha⟩ := hc
    have hp : parseV sl = .error (k, p) := by unfold parseV; rw [hr]
    obtain ⟨c1, c2, f1, f2, d1, d2, hG⟩ := HEnd.out k p a w1 ha hb1 hp
    refine leaves_cons (f := 14) (args := #[.pointer (some ⟨w.heap.size, 0, none⟩), .pointer (some ⟨w.heap.size + 1, 0, none⟩)]) (by simp) (by simp [go_sem]) ?_
    refine (catch_threw w.heap.size (w.heap.size + 1) a _ _ w1 c1 c2 f1 f2 (by omega)).mono ?_
    rintro e u' w2 ⟨rfl, rfl, rfl⟩
    exact ⟨_, res8 _ _ w.heap.size (w.heap.size + 1) _ _ rfl rfl d1 d2, hG⟩
  | ok l =>
    rw [hr] at hc
    obtain ⟨v, rfl, hrow⟩ := hc
    obtain ⟨hends, hlen⟩ := tok_ends hr HS.out
    obtain ⟨T, cp, rfl, hT1, hT2⟩ := hrow.form hends.pos
    have HPS : Hid (PS (w1.alloc (.cells #[.slice (some ⟨T, 0, none⟩) l.length cp] 49)) w1.heap.size T 0 cp l) := ps_of hrow
    have HB1 : Hid (Below W0.heap.size W0 w1) := hb1
    have HEn : Hid (Ends l) := hends
    have HLn : Hid (l.length ≤ 1501) := hlen
    have HR : Hid (tokV sl = .ok l) := hr
    clear hb1 hrow hT1 hT2 hends hr
    obtain ⟨ln, hln⟩ : ∃ ln, l.length = ln := ⟨_, rfl⟩
    have HLN : Hid (l.length = ln) := hln
    rw [hln] at HPS ⊢
    clear hln hlen
    go_wp2_with (go_at_call 16; fail)
    obtain ⟨W2, hW2⟩ : ∃ W2, W2 = w1.alloc (.cells #[.slice (some ⟨T, 0, none⟩) ln cp] 49) := ⟨_, rfl⟩
    obtain ⟨P, hP⟩ : ∃ P, P = w1.heap.size := ⟨_, rfl⟩
    have hz := HZ0.out
    have hs1 := HB1.out.size
    have HPS2 : Hid (PS W2 P T 0 cp l) := by show PS _ _ _ _ _ _; rw [hW2, hP]; exact HPS.out
    have HB2 : Hid (Below W0.heap.size W0 W2) := by show Below _ _ _; rw [hW2]; exact HB1.out.alloc hs1 _
    have HPB : Hid (W0.heap.size ≤ P ∧ P < W2.heap.size) := by show _ ∧ _; rw [hW2, hP]; exact ⟨hs1, by simp⟩
    rw [← hW2, ← hP]
    clear hW2 hP HPS HB1 hz hs1
    have hA : At W2 P T 0 cp 0 l := ⟨HE.out.below (HB0.out.trans (HB2.out.mono (by have := HZ0.out; omega))), HPS2.out, HEn.out, by have := HE.out.lt; have := HPB.out; have := HZ0.out; omega, by have := HLn.out; omega⟩
    refine (program_walk W2 P T 0 cp l hA).mono ?_
    rintro e w3 (⟨t, l', v, n, cs, hr, rfl, hrow, hx, hg⟩ | ⟨k, p, hr, ⟨a, rfl, ha⟩, hg⟩)
    rotate_left
    · have hb3 : Below W0.heap.size W0 w3 := HB2.out.trans (gr_to_below hg HPB.out.1 HB2.out.size)
      have hp : parseV sl = .error (k, p) := by unfold parseV; rw [HR.out]; show (match progV (l.length + 1) 0 l with | .error e => _ | .ok (t, _) => _) = _; rw [hr]
      obtain ⟨c1, c2, f1, f2, d1, d2, hG⟩ := HEnd.out k p a w3 ha hb3 hp
      refine leaves_cons (f := 14) (args := #[.pointer (some ⟨w.heap.size, 0, none⟩), .pointer (some ⟨w.heap.size + 1, 0, none⟩)]) (by simp) (by simp [go_sem]) ?_
      refine (catch_threw w.heap.size (w.heap.size + 1) a _ _ w3 c1 c2 f1 f2 (by omega)).mono ?_
      rintro e u' w4 ⟨rfl, rfl, rfl⟩
      exact ⟨_, res8 _ _ w.heap.size (w.heap.size + 1) _ _ rfl rfl d1 d2, hG⟩
    obtain ⟨qv, cv, rfl⟩ := own_slice hrow
    have hb3 : Below W0.heap.size W0 w3 := HB2.out.trans (gr_to_below hg HPB.out.1 HB2.out.size)
    have hz := HZ0.out
    have hl : w3.heap[w.heap.size]? = some (.cells #[.slice none 0 0] 23) := by rw [hb3.block _ (by omega)]; exact HL0.out
    have he : w3.heap[w.heap.size + 1]? = some (.cells #[.nilIface] 25) := by rw [hb3.block _ (by omega)]; exact HE0.out
    have c1 := cell_at (i := 0) hl rfl
    have c2 := cell_at (i := 0) he rfl
    have f1 := row_free hl 0
    have f2 := row_free he 0
    have HB3 : Hid (Below W0.heap.size W0 w3) := hb3
    have HLc : Hid (w3.heap[w.heap.size]? = some (.cells #[.slice none 0 0] 23)) := hl
    have HEc : Hid (w3.heap[w.heap.size + 1]? = some (.cells #[.nilIface] 25)) := he
    have HO : Hid (w3.ownsRow W2.heap.size 41 4 (.slice qv n cv) n cs) := hrow
    have HX : Hid (FnAt (Fr W2.heap.size) w3 t cs) := hx
    have HRR : Hid (progV (l.length + 1) 0 l = .ok (t, l')) := hr
    clear hr hrow hx hg hb3 hl he hz hA
    go_wp2
    refine leaves_cons (f := 14) (args := #[.pointer (some ⟨w.heap.size, 0, none⟩), .pointer (some ⟨w.heap.size + 1, 0, none⟩)]) (by simp) (by simp [go_sem]) ?_
    refine (catch_idle ⟨w.heap.size, 0, none⟩ ⟨w.heap.size + 1, 0, none⟩ _).mono ?_
    rintro e u' w4 ⟨rfl, rfl, rfl⟩
    have e2 : (w3.setCell ⟨w.heap.size, 0, none⟩ (.slice qv n cv)).heap[w.heap.size + 1]? = some (.cells #[.nilIface] 25) := by
      rw [heap_setCell_other _ _ _ _ (by show w.heap.size + 1 ≠ w.heap.size; omega)]
      exact HEc.out
    have l3 : ((w3.setCell ⟨w.heap.size, 0, none⟩ (.slice qv n cv)).setCell ⟨w.heap.size + 1, 0, none⟩ .nilIface).heap[w.heap.size]? = some (.cells #[.slice qv n cv] 23) := by
      rw [heap_setCell_other _ _ _ _ (by show w.heap.size ≠ w.heap.size + 1; omega)]
      exact heap_setCell_same _ _ _ _ _ _ HLc.out
    have e3 : ((w3.setCell ⟨w.heap.size, 0, none⟩ (.slice qv n cv)).setCell ⟨w.heap.size + 1, 0, none⟩ .nilIface).heap[w.heap.size + 1]? = some (.cells #[.nilIface] 25) := heap_setCell_same _ _ _ _ _ _ e2
    refine ⟨_, res8 _ _ w.heap.size (w.heap.size + 1) _ _ rfl rfl (cell_at (i := 0) l3 rfl) (cell_at (i := 0) e3 rfl), HG0.out _ _ ?_⟩
    have hp : parseV sl = .ok t := by unfold parseV; rw [HR.out]; show (match progV (l.length + 1) 0 l with | .error e => _ | .ok (t, _) => _) = _; rw [HRR.out]
    rw [hp]
    have hz := HZ0.out
    have hw2 := HB2.out.size
    have hK : Keeps (Fr W2.heap.size) w3 ((w3.setCell ⟨w.heap.size, 0, none⟩ (.slice qv n cv)).setCell ⟨w.heap.size + 1, 0, none⟩ .nilIface) := (Keeps.set (by omega)).trans (Keeps.set (by omega))
    refine ⟨⟨_, n, cs, rfl, own_mono (hK.row (by decide) HO.out (fun i hi => (HO.out.lt i hi).1)) (by omega), FnAt.old (FnAt.kept hK _ _ HX.out) (by omega)⟩, ?_⟩
    exact ((HB0.out.trans (HB3.out.mono (by omega))).setCell (p := ⟨w.heap.size, 0, none⟩) (Nat.le_refl _) _).setCell (p := ⟨w.heap.size + 1, 0, none⟩) (by show w.heap.size ≤ w.heap.size + 1; omega) _
end Go.Proofs.YtpakgaegckkmnaaGreatDoor
