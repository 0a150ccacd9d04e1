/- UK V0 V1 V2 V3 -/
import Derived.Test.YtnfhpdbbfejioaaGreatDoorQ09
namespace Go.Proofs.YtnfhpdbbfejioaaGreatDoor
set_option linter.unusedVariables false
set_option linter.unusedSimpArgs false
set_option maxRecDepth 100000
set_option maxHeartbeats 4000000
open Go Go.RowKit
theorem one_kind {rest : By} {k : Nat} {t : By} (h : qF rest = some (k, t)) : k ≤ 2 := by
 unfold qF at h
 split at h
 ·injection h with h
  injection h with h _
  omega
 ·split at h
  ·injection h with h
   injection h with h _
   split at h <;> omega
  ·obtain ⟨m, hm, he⟩ := Option.map_eq_some_iff.1 h
   injection he with he _
   omega
theorem cut_ends (n : Nat) : ∀ (f : Nat) (rest : By) (l r : List Tok), rest.length + 1 ≤ f → rest.length ≤ 1000000 → (∀ x ∈ l, x.k ≠ 3 ∧ x.t ≠ [] ∧ x.t.length ≤ 1000000) → l.length ≤ 1500 → cutV n f rest l = .ok r → Ends r ∧ r.length ≤ 1501
 | 0, rest, l, r, h1, h2, h3, h4, h => by omega
 | f + 1, rest, l, r, h1, h2, h3, h4, h => by
  rw [cutV] at h
  split at h
  ·injection h with h
   subst h
   exact ⟨⟨l, ⟨3, [], n⟩, rfl, rfl, rfl, h3⟩, by simp; omega⟩
  ·split at h
   ·cases h
   ·rename_i k t ho
    split at h
    ·cases h
    ·rename_i hl
     obtain ⟨p1, p2⟩ := one_pos ho
     have pk := one_kind ho
     have hs := qO false (rest.drop t.length)
     rw [List.length_drop] at hs
     refine cut_ends n f _ _ r (by omega) (by omega) (fun x hx => ?_) (by simp; omega) h
     rcases List.mem_append.1 hx with hx | hx
     ·exact h3 x hx
     ·rw [List.mem_singleton] at hx
      subst hx
      exact ⟨by show k ≠ 3; omega, by show t ≠ []; intro e; rw [e] at p1; simp at p1, by show t.length ≤ _; omega⟩
theorem tok_ends {s : By} {r : List Tok} (h : tokV s = .ok r) (hs : s.length ≤ 1000000) : Ends r ∧ r.length ≤ 1501 := by
 have h1 := qO false s
 exact cut_ends s.length _ _ [] r (by omega) (by omega) (by simp) (by simp) h
def zO (s : By) : Except (Int × Nat) Tr :=
 match tokV s with
 | .error e => .error e
 | .ok l => match zT (l.length + 1) 0 l with
  | .error e => .error e
  | .ok (t, _) => .ok t
def ParsePost (w : World) (r : Except (Int × Nat) Tr) (e : Ending) (w' : World) : Prop :=
 match r with
 | .ok t => (∃ v n cs, e = .returned (.tuple #[v, .nilIface]) ∧ w'.ownsRow w.heap.size 86 4 v n cs ∧ FnAt (Fr w.heap.size) w' t cs) ∧ Below w.heap.size w w'
 | .error (k, p) => (∃ a, e = .returned (.tuple #[.slice none 0 0, .iface 72 (.pointer (some ⟨a, 0, none⟩))]) ∧ w'.heap[a]? = some (.cells #[.int .i64 k, .int .i64 (p : Int)] 139)) ∧ Below w.heap.size w w'
theorem Env.lt {w : World} (h : Env w) : 14 ≤ w.heap.size := by
 obtain ⟨c, d, hr⟩ := h.rng
 unfold World.var? at hr
 simp only [gRng, Option.bind_some] at hr
 rcases Nat.lt_or_ge 13 w.heap.size with h1 | h1
 ·omega
 ·rw [Array.getElem?_eq_none h1] at hr; simp at hr
theorem tkc_get : ∀ (l : List Tok) (j : Nat) (t : Tok), l[j]? = some t → (tkc l)[j * 3]? = some (.int .i64 (t.k : Int)) ∧ (tkc l)[j * 3 + 1]? = some (str t.t) ∧ (tkc l)[j * 3 + 2]? = some (.int .i64 (t.p : Int))
 | [], j, t, h => by simp at h
 | x :: l, 0, t, h => by
  simp at h
  subst h
  exact ⟨rfl, rfl, rfl⟩
 | x :: l, j + 1, t, h => by
  have ih := tkc_get l j t (by simpa using h)
  have e : ∀ i, (tkc (x :: l))[i + 3]? = (tkc l)[i]? := fun i => rfl
  rw [show (j + 1) * 3 = j * 3 + 3 by omega, show j * 3 + 3 + 1 = j * 3 + 1 + 3 by omega, show j * 3 + 3 + 2 = j * 3 + 2 + 3 by omega, e, e, e]
  exact ih
theorem ps_of {w : World} {B T c : Nat} {l : List Tok} (h : w.ownsRow B 136 3 (.slice (some ⟨T, 0, none⟩) l.length c) l.length (tkc l)) : PS (w.alloc (.cells #[.slice (some ⟨T, 0, none⟩) l.length c] 78)) w.heap.size T 0 c l := by
 rcases h.2 with ⟨h1, _⟩ | ⟨g, cap, cur, hv, hb, hg, hn, hm, hs, ht⟩
 ·cases h1
 ·injection hv with hv1 _ hv3
  injection hv1 with hv1
  injection hv1 with hv1
  subst hv1
  subst hv3
  have hlt : T < w.heap.size := (Array.getElem?_eq_some_iff.1 hg).1
  refine ⟨heap_alloc_last w _, hn, by omega, fun j t hj => ?_⟩
  have hjl : j < l.length := (List.getElem?_eq_some_iff.1 hj).1
  obtain ⟨a, b, d⟩ := tkc_get l j t hj
  have hc : ∀ i v, i < l.length * 3 → (tkc l)[i]? = some v → (w.alloc (.cells #[.slice (some ⟨T, 0, none⟩) l.length c] 78)).cell? ⟨T, 0 + i, none⟩ = some v := fun i v hi hv => by
   rw [Nat.zero_add]
   refine z_ (zc hg _) ?_
   rw [← ht, List.getElem?_take_of_lt hi, Array.getElem?_toList] at hv
   exact hv
  have h1 := hc (j * 3) _ (by omega) a
  have h2 := hc (j * 3 + 1) _ (by omega) b
  have h3 := hc (j * 3 + 2) _ (by omega) d
  exact ⟨h1, h2, h3⟩
theorem gr_to_below {P B : Nat} {a b : World} (h : Gr P a b) (hP : B ≤ P) (hB : B ≤ a.heap.size) : Below B a b := ⟨h.os, h.tape, h.output, h.size, fun k hk => h.block k (by omega) (by intro e; injection e with e; omega)⟩
theorem res8 (tmps : Array Value) (W : World) (b1 b2 : Nat) (x y : Value) (hp1 : tmps[2]?.getD undef = .pointer (some ⟨b1, 0, none⟩)) (hp2 : tmps[3]?.getD undef = .pointer (some ⟨b2, 0, none⟩)) (h1 : W.cell? ⟨b1, 0, none⟩ = some x) (h2 : W.cell? ⟨b2, 0, none⟩ = some y) :
  (results Tryz.f14 tmps).run Tryz.prog W = .ok (.tuple #[x, y]) W := by
 simp [results, Tryz.results14, go_sem, hp1, hp2, h1, h2]
theorem parse_any (s : ByteArray) (w : World) (he : Env w) (hs : s.size ≤ 1000000) : Calls Tryz.prog 14 #[.string s] w (ParsePost w (zO s.data.toList)) := by
 have hmf : ∀ (fn : Fn) (first cap : Array Value) (w : World), (Instr.makeFunc fn first cap).run Tryz.prog w = .ok (.func fn first cap) w := fun _ _ _ _ => rfl
 obtain ⟨W0, hW0⟩ : ∃ W0, W0 = ((w.alloc (.cells #[.slice none 0 0] 24)).alloc (.cells #[.nilIface] 34)) := ⟨_, rfl⟩
 have hb0 : Below w.heap.size w W0 := by
  rw [hW0]
  exact ((Below.refl _ _).alloc (Nat.le_refl _) _).alloc (by simp) _
 have hz0 : W0.heap.size = w.heap.size + 2 := by rw [hW0]; simp
 have hl0 : W0.heap[w.heap.size]? = some (.cells #[.slice none 0 0] 24) := by
  rw [hW0]
  exact zc (heap_alloc_last w _) _
 have he0 : W0.heap[w.heap.size + 1]? = some (.cells #[.nilIface] 34) := by
  rw [hW0]
  have := heap_alloc_last (w.alloc (.cells #[.slice none 0 0] 24)) (.cells #[.nilIface] 34)
  simpa using this
 have HCut : Hid (Calls Tryz.prog 32 #[.string s] W0 fun e w' => CutPost W0 (tokV s.data.toList) e w' ∧ Below W0.heap.size W0 w') := cut_any s W0 (he.below hb0) hs
 have HB0 : Hid (Below w.heap.size w W0) := hb0
 have HZ0 : Hid (W0.heap.size = w.heap.size + 2) := hz0
 have HL0 : Hid (W0.heap[w.heap.size]? = some (.cells #[.slice none 0 0] 24)) := hl0
 have HE0 : Hid (W0.heap[w.heap.size + 1]? = some (.cells #[.nilIface] 34)) := he0
 have HE : Hid (Env w) := he
 have HS : Hid (s.data.toList.length ≤ 1000000) := by show _ ≤ _; simpa using hs
 obtain ⟨sl, hsl⟩ : ∃ sl, sl = s.data.toList := ⟨_, rfl⟩
 rw [← hsl] at HCut HS ⊢
 have HG0 : Hid (∀ e w', ParsePost w (zO sl) e w' → ParsePost w (zO sl) e w') := fun _ _ h => h
 generalize hG : ParsePost w (zO sl) = G at *
 clear HG0
 have HG0 : Hid (∀ e w', ParsePost w (zO sl) e w' → G e w') := fun e w' h => by rw [← hG]; exact h
 clear he hs hb0 hz0 hl0 he0 hsl hG
 have HEnd : Hid (∀ (k : Int) (p a : Nat) (W : World), W.heap[a]? = some (.cells #[.int .i64 k, .int .i64 (p : Int)] 139) → Below W0.heap.size W0 W → zO sl = .error (k, p) →
   W.cell? ⟨w.heap.size, 0, none⟩ = some (.slice none 0 0) ∧ W.cell? ⟨w.heap.size + 1, 0, none⟩ = some .nilIface ∧ W.frozen? ⟨w.heap.size, 0, none⟩ = false ∧ W.frozen? ⟨w.heap.size + 1, 0, none⟩ = false ∧
   ((W.setCell ⟨w.heap.size, 0, none⟩ (.slice none 0 0)).setCell ⟨w.heap.size + 1, 0, none⟩ (.iface 72 (.pointer (some ⟨a, 0, none⟩)))).cell? ⟨w.heap.size, 0, none⟩ = some (.slice none 0 0) ∧
   ((W.setCell ⟨w.heap.size, 0, none⟩ (.slice none 0 0)).setCell ⟨w.heap.size + 1, 0, none⟩ (.iface 72 (.pointer (some ⟨a, 0, none⟩)))).cell? ⟨w.heap.size + 1, 0, none⟩ = some (.iface 72 (.pointer (some ⟨a, 0, none⟩))) ∧
   G (.returned (.tuple #[.slice none 0 0, .iface 72 (.pointer (some ⟨a, 0, none⟩))])) ((W.setCell ⟨w.heap.size, 0, none⟩ (.slice none 0 0)).setCell ⟨w.heap.size + 1, 0, none⟩ (.iface 72 (.pointer (some ⟨a, 0, none⟩))))) := fun k p a W ha hb hr => by
  have hz := HZ0.out
  have hl : W.heap[w.heap.size]? = some (.cells #[.slice none 0 0] 24) := by rw [hb.block _ (by omega)]; exact HL0.out
  have he : W.heap[w.heap.size + 1]? = some (.cells #[.nilIface] 34) := by rw [hb.block _ (by omega)]; exact HE0.out
  have n1 : a ≠ w.heap.size := fun e => by
   rw [e, hl] at ha
   injection ha with ha
   injection ha with _ h2
   exact absurd h2 (by decide)
  have n2 : a ≠ w.heap.size + 1 := fun e => by
   rw [e, he] at ha
   injection ha with ha
   injection ha with _ h2
   exact absurd h2 (by decide)
  have c1 := z_ (i := 0) hl rfl
  have c2 := z_ (i := 0) he rfl
  have l2 : (W.setCell ⟨w.heap.size, 0, none⟩ (.slice none 0 0)).heap[w.heap.size]? = some (.cells #[.slice none 0 0] 24) := heap_setCell_same _ _ _ _ _ _ hl
  have e2 : (W.setCell ⟨w.heap.size, 0, none⟩ (.slice none 0 0)).heap[w.heap.size + 1]? = some (.cells #[.nilIface] 34) := by
   rw [heap_setCell_other _ _ _ _ (by show w.heap.size + 1 ≠ w.heap.size; omega)]
   exact he
  have l3 : ((W.setCell ⟨w.heap.size, 0, none⟩ (.slice none 0 0)).setCell ⟨w.heap.size + 1, 0, none⟩ (.iface 72 (.pointer (some ⟨a, 0, none⟩)))).heap[w.heap.size]? = some (.cells #[.slice none 0 0] 24) := by
   rw [heap_setCell_other _ _ _ _ (by show w.heap.size ≠ w.heap.size + 1; omega)]
   exact l2
  have e3 : ((W.setCell ⟨w.heap.size, 0, none⟩ (.slice none 0 0)).setCell ⟨w.heap.size + 1, 0, none⟩ (.iface 72 (.pointer (some ⟨a, 0, none⟩)))).heap[w.heap.size + 1]? = some (.cells #[.iface 72 (.pointer (some ⟨a, 0, none⟩))] 34) := heap_setCell_same _ _ _ _ _ _ e2
  refine ⟨c1, c2, zb hl 0, zb he 0, z_ (i := 0) l3 rfl, z_ (i := 0) e3 rfl, HG0.out _ _ ?_⟩
  rw [hr]
  refine ⟨⟨a, rfl, ?_⟩, ?_⟩
  ·rw [heap_setCell_other _ _ _ _ (by show a ≠ w.heap.size + 1; exact n2), heap_setCell_other _ _ _ _ (by show a ≠ w.heap.size; exact n1)]
   exact ha
  ·exact ((HB0.out.trans (hb.mono (by omega))).setCell (p := ⟨w.heap.size, 0, none⟩) (Nat.le_refl _) _).setCell (p := ⟨w.heap.size + 1, 0, none⟩) (by show w.heap.size ≤ w.heap.size + 1; omega) _
 go_enter_defers Tryz.func14, Tryz.ntmps14
 go_wp2_with (go_at_call 32; fail)
 rw [← hW0]
 clear hW0
 refine HCut.out.mono ?_
 rintro e w1 ⟨hc, hb1⟩
 cases hr : tokV sl with
 | error kp =>
  obtain ⟨k, p⟩ := kp
  rw [hr] at hc
  obtain ⟨a, rfl, ha⟩ := hc
  have hp : zO sl = .error (k, p) := by unfold zO; rw [hr]
  obtain ⟨c1, c2, f1, f2, d1, d2, hG⟩ := HEnd.out k p a w1 ha hb1 hp
  refine leaves_cons (f := 31) (args := #[.pointer (some ⟨w.heap.size, 0, none⟩), .pointer (some ⟨w.heap.size + 1, 0, none⟩)]) (by simp) (by simp [go_sem]) ?_
  refine (catch_threw w.heap.size (w.heap.size + 1) a _ _ w1 c1 c2 f1 f2 (by omega)).mono ?_
  rintro e u' w2 ⟨rfl, rfl, rfl⟩
  exact ⟨_, res8 _ _ w.heap.size (w.heap.size + 1) _ _ rfl rfl d1 d2, hG⟩
 | ok l =>
  rw [hr] at hc
  obtain ⟨v, rfl, hrow⟩ := hc
  obtain ⟨hends, hlen⟩ := tok_ends hr HS.out
  obtain ⟨T, cp, rfl, hT1, hT2⟩ := hrow.form hends.pos
  have HPS : Hid (PS (w1.alloc (.cells #[.slice (some ⟨T, 0, none⟩) l.length cp] 78)) w1.heap.size T 0 cp l) := ps_of hrow
  have HB1 : Hid (Below W0.heap.size W0 w1) := hb1
  have HEn : Hid (Ends l) := hends
  have HLn : Hid (l.length ≤ 1501) := hlen
  have HR : Hid (tokV sl = .ok l) := hr
  clear hb1 hrow hT1 hT2 hends hr
  obtain ⟨ln, hln⟩ : ∃ ln, l.length = ln := ⟨_, rfl⟩
  have HLN : Hid (l.length = ln) := hln
  rw [hln] at HPS ⊢
  clear hln hlen
  go_wp2_with (go_at_call 33; fail)
  obtain ⟨W2, hW2⟩ : ∃ W2, W2 = w1.alloc (.cells #[.slice (some ⟨T, 0, none⟩) ln cp] 78) := ⟨_, rfl⟩
  obtain ⟨P, hP⟩ : ∃ P, P = w1.heap.size := ⟨_, rfl⟩
  have hz := HZ0.out
  have hs1 := HB1.out.size
  have HPS2 : Hid (PS W2 P T 0 cp l) := by show PS _ _ _ _ _ _; rw [hW2, hP]; exact HPS.out
  have HB2 : Hid (Below W0.heap.size W0 W2) := by show Below _ _ _; rw [hW2]; exact HB1.out.alloc hs1 _
  have HPB : Hid (W0.heap.size ≤ P ∧ P < W2.heap.size) := by show _ ∧ _; rw [hW2, hP]; exact ⟨hs1, by simp⟩
  rw [← hW2, ← hP]
  clear hW2 hP HPS HB1 hz hs1
  have hA : At W2 P T 0 cp 0 l := ⟨HE.out.below (HB0.out.trans (HB2.out.mono (by have := HZ0.out; omega))), HPS2.out, HEn.out, by have := HE.out.lt; have := HPB.out; have := HZ0.out; omega, by have := HLn.out; omega⟩
  refine (program_walk W2 P T 0 cp l hA).mono ?_
  rintro e w3 (⟨t, l', v, n, cs, hr, rfl, hrow, hx, hg⟩ | ⟨k, p, hr, ⟨a, rfl, ha⟩, hg⟩)
  rotate_left
  ·have hb3 : Below W0.heap.size W0 w3 := HB2.out.trans (gr_to_below hg HPB.out.1 HB2.out.size)
   have hp : zO sl = .error (k, p) := by unfold zO; rw [HR.out]; show (match zT (l.length + 1) 0 l with | .error e => _ | .ok (t, _) => _) = _; rw [hr]
   obtain ⟨c1, c2, f1, f2, d1, d2, hG⟩ := HEnd.out k p a w3 ha hb3 hp
   refine leaves_cons (f := 31) (args := #[.pointer (some ⟨w.heap.size, 0, none⟩), .pointer (some ⟨w.heap.size + 1, 0, none⟩)]) (by simp) (by simp [go_sem]) ?_
   refine (catch_threw w.heap.size (w.heap.size + 1) a _ _ w3 c1 c2 f1 f2 (by omega)).mono ?_
   rintro e u' w4 ⟨rfl, rfl, rfl⟩
   exact ⟨_, res8 _ _ w.heap.size (w.heap.size + 1) _ _ rfl rfl d1 d2, hG⟩
  obtain ⟨qv, cv, rfl⟩ := ze hrow
  have hb3 : Below W0.heap.size W0 w3 := HB2.out.trans (gr_to_below hg HPB.out.1 HB2.out.size)
  have hz := HZ0.out
  have hl : w3.heap[w.heap.size]? = some (.cells #[.slice none 0 0] 24) := by rw [hb3.block _ (by omega)]; exact HL0.out
  have he : w3.heap[w.heap.size + 1]? = some (.cells #[.nilIface] 34) := by rw [hb3.block _ (by omega)]; exact HE0.out
  have c1 := z_ (i := 0) hl rfl
  have c2 := z_ (i := 0) he rfl
  have f1 := zb hl 0
  have f2 := zb he 0
  have HB3 : Hid (Below W0.heap.size W0 w3) := hb3
  have HLc : Hid (w3.heap[w.heap.size]? = some (.cells #[.slice none 0 0] 24)) := hl
  have HEc : Hid (w3.heap[w.heap.size + 1]? = some (.cells #[.nilIface] 34)) := he
  have HO : Hid (w3.ownsRow W2.heap.size 86 4 (.slice qv n cv) n cs) := hrow
  have HX : Hid (FnAt (Fr W2.heap.size) w3 t cs) := hx
  have HRR : Hid (zT (l.length + 1) 0 l = .ok (t, l')) := hr
  clear hr hrow hx hg hb3 hl he hz hA
  go_wp2
  refine leaves_cons (f := 31) (args := #[.pointer (some ⟨w.heap.size, 0, none⟩), .pointer (some ⟨w.heap.size + 1, 0, none⟩)]) (by simp) (by simp [go_sem]) ?_
  refine (catch_idle ⟨w.heap.size, 0, none⟩ ⟨w.heap.size + 1, 0, none⟩ _).mono ?_
  rintro e u' w4 ⟨rfl, rfl, rfl⟩
  have e2 : (w3.setCell ⟨w.heap.size, 0, none⟩ (.slice qv n cv)).heap[w.heap.size + 1]? = some (.cells #[.nilIface] 34) := by
   rw [heap_setCell_other _ _ _ _ (by show w.heap.size + 1 ≠ w.heap.size; omega)]
   exact HEc.out
  have l3 : ((w3.setCell ⟨w.heap.size, 0, none⟩ (.slice qv n cv)).setCell ⟨w.heap.size + 1, 0, none⟩ .nilIface).heap[w.heap.size]? = some (.cells #[.slice qv n cv] 24) := by
   rw [heap_setCell_other _ _ _ _ (by show w.heap.size ≠ w.heap.size + 1; omega)]
   exact heap_setCell_same _ _ _ _ _ _ HLc.out
  have e3 : ((w3.setCell ⟨w.heap.size, 0, none⟩ (.slice qv n cv)).setCell ⟨w.heap.size + 1, 0, none⟩ .nilIface).heap[w.heap.size + 1]? = some (.cells #[.nilIface] 34) := heap_setCell_same _ _ _ _ _ _ e2
  refine ⟨_, res8 _ _ w.heap.size (w.heap.size + 1) _ _ rfl rfl (z_ (i := 0) l3 rfl) (z_ (i := 0) e3 rfl), HG0.out _ _ ?_⟩
  have hp : zO sl = .ok t := by unfold zO; rw [HR.out]; show (match zT (l.length + 1) 0 l with | .error e => _ | .ok (t, _) => _) = _; rw [HRR.out]
  rw [hp]
  have hz := HZ0.out
  have hw2 := HB2.out.size
  have hK : Keeps (Fr W2.heap.size) w3 ((w3.setCell ⟨w.heap.size, 0, none⟩ (.slice qv n cv)).setCell ⟨w.heap.size + 1, 0, none⟩ .nilIface) := (Keeps.set (by omega)).trans (Keeps.set (by omega))
  refine ⟨⟨_, n, cs, rfl, own_mono (hK.row (by decide) HO.out (fun i hi => (HO.out.lt i hi).1)) (by omega), FnAt.old (FnAt.kept hK _ _ HX.out) (by omega)⟩, ?_⟩
  exact ((HB0.out.trans (HB3.out.mono (by omega))).setCell (p := ⟨w.heap.size, 0, none⟩) (Nat.le_refl _) _).setCell (p := ⟨w.heap.size + 1, 0, none⟩) (by show w.heap.size ≤ w.heap.size + 1; omega) _
end Go.Proofs.YtnfhpdbbfejioaaGreatDoor
namespace Go.Proofs
open Go.Shelf Go.RowKit
def Tryz.lays166_ren : Go.Shelf.Ren := ⟨fun | 166 => 34 | 240 => 62 | 276 => 98 | n => n, fun | 0 => 0 | 3 => 3 | 4 => 4 | 5 => 5 | 9 => 9 | 20 => 20 | 37 => 81 | 70 => 80 | 72 => 83 | 75 => 34 | 80 => 91 | 164 => 162 | n => n, fun | n => n⟩
theorem Tryz.lays166 : Go.Proofs.Lays.n166 Tryz.prog Tryz.lays166_ren := {
 mixed := by kernel_rfl
 f166 := Tryz.func34.trans (congrArg some (by kernel_rfl))
 f240 := Tryz.func62.trans (congrArg some (by kernel_rfl))
 f276 := Tryz.func98.trans (congrArg some (by kernel_rfl))
 t0 := Tryz.underlying0
 a0 := Tryz.isAgg0
 z0 := Tryz.sizeOf0
 v0 := Tryz.zeroValue0
 t3 := Tryz.underlying3
 a3 := Tryz.isAgg3
 z3 := Tryz.sizeOf3
 v3 := Tryz.zeroValue3
 t4 := Tryz.underlying4
 a4 := Tryz.isAgg4
 z4 := Tryz.sizeOf4
 v4 := Tryz.zeroValue4
 t9 := Tryz.underlying9
 a9 := Tryz.isAgg9
 z9 := Tryz.sizeOf9
 v9 := Tryz.zeroValue9
 t20 := Tryz.underlying20
 a20 := Tryz.isAgg20
 z20 := Tryz.sizeOf20
 v20 := Tryz.zeroValue20
 t37 := Tryz.underlying81
 a37 := Tryz.isAgg81
 z37 := Tryz.sizeOf81
 v37 := Tryz.zeroValue81
 t70 := Tryz.underlying80
 a70 := Tryz.isAgg80
 z70 := Tryz.sizeOf80
 v70 := Tryz.zeroValue80
 t72 := Tryz.underlying83
 a72 := Tryz.isAgg83
 z72 := Tryz.sizeOf83
 v72 := Tryz.zeroValue83
 t75 := Tryz.underlying34
 a75 := Tryz.isAgg34
 z75 := Tryz.sizeOf34
 v75 := Tryz.zeroValue34
 t164 := Tryz.underlying162
 a164 := Tryz.isAgg162
 z164 := Tryz.sizeOf162
 v164 := Tryz.zeroValue162 }
theorem Tryz.Builder_Extra_166 : Builder.Extra Tryz.prog Tryz.lays166_ren := {
 sizeBuilder := by kernel_rfl
 liesBuilder := by kernel_rfl
 t5 := Tryz.underlying5
 a5 := Tryz.isAgg5
 z5 := Tryz.sizeOf5
 v5 := Tryz.zeroValue5
 infoByte := by kernel_rfl
 cellsByte := by kernel_rfl
 sizeByte := by kernel_rfl
 neB5 := by decide }
theorem Tryz.Builder_WriteString_k (B b : Nat) (bs : List Value) (s : ByteArray) (w : World) (h : Lib.IsBuilderF 83 5 B b bs w) (hlen : bs.length + s.size ≤ 140737488355328) (hBw : B ≤ w.heap.size) :
  Calls Tryz.prog 34 #[.pointer (some ⟨b, 0, none⟩), .string s] w fun e w' => e = .returned (.tuple #[.int .i64 s.size, .nilIface]) ∧ (Lib.BuilderAtF 83 5 B b (.pointer (some ⟨b, 0, none⟩)) (bs ++ Lib.strCells s) w' ∧ Below B w w' ∧ Lib.OthersKept 5 (some b) w w') := Any.Builder_WriteString_k Tryz.lays166 Tryz.Builder_Extra_166 B b bs s w h hlen hBw
end Go.Proofs
namespace Go.Proofs.YtnfhpdbbfejioaaGreatDoor
set_option linter.unusedVariables false
set_option linter.unusedSimpArgs false
set_option maxRecDepth 100000
set_option maxHeartbeats 4000000
open Go Go.RowKit
def zK : Tr → Nat
 | .agg [.lit (.int _ c), _, _, _, .lit (.string op), _, _, _] => if c = 3 then zi op else if c = 4 then 7 else 8
 | _ => 8
def zJ : Tr → Nat → By → By
 | .nil, _, s => s
 | t, k, s => if k ≤ zK t then s else [40] ++ s ++ [41]
def sep : Tr → By
 | .slice [] [] => []
 | _ => [44, 32]
def wrT : Tr → By
 | .agg [.lit (.int _ c), .lit (.int _ _), .lit (.int _ n), .lit (.string nm), .lit (.string op), l, r, g] =>
  if c = 1 then Lib.itoa n
  else if c = 2 then nm
  else if c = 3 then zJ l (zi op) (wrT l) ++ ([32] ++ op ++ [32]) ++ zJ r (zi op + 1) (wrT r)
  else if c = 4 then op ++ zJ l 7 (wrT l)
  else if c = 5 then (nm ++ [40]) ++ wrT g ++ [41]
  else if c = 6 then ([110, 101, 119] ++ [40]) ++ wrT l ++ [41]
  else if c = 7 then ([108, 101, 110] ++ [40]) ++ wrT l ++ [41]
  else if c = 9 then ([105, 110, 112, 117, 116] ++ [40]) ++ [41]
  else if c = 8 then zJ l 8 (wrT l) ++ ([91] ++ wrT r ++ [93])
  else []
 | .slice [x] [g] => wrT x ++ sep g ++ wrT g
 | _ => []
abbrev Bd (B b : Nat) (s : By) (W : World) : Prop := Lib.IsBuilderF 83 5 B b (Lib.byteCells s) W
structure FrB (B b : Nat) (w w' : World) : Prop where
 low : Below B w w'
 oth : Lib.OthersKept 5 (some b) w w'
theorem FrB.refl (B b : Nat) (w : World) : FrB B b w w := ⟨Below.refl _ _, Lib.OthersKept.refl _ _ _⟩
theorem FrB.trans {B b : Nat} {x y z : World} (h : FrB B b x y) (g : FrB B b y z) : FrB B b x z := ⟨h.low.trans g.low, h.oth.trans g.oth⟩
theorem FrB.of {B b : Nat} {w w' : World} (h : Below w.heap.size w w') (hB : B ≤ w.heap.size) : FrB B b w w' := ⟨h.mono hB, fun k o hk _ _ => by rw [h.block k (Array.getElem?_eq_some_iff.1 hk).1]; exact hk⟩
theorem FrB.size {B b : Nat} {w w' : World} (h : FrB B b w w') : w.heap.size ≤ w'.heap.size := h.low.size
theorem FrB.keeps {B b : Nat} {s : By} {w w' : World} (S : Nat → Prop) (hb : Bd B b s w) (h : FrB B b w w') : Keeps S w w' := fun k cs t _ ht hk => by
 refine h.oth k _ hk (fun e => ?_) (fun c fz e => ?_)
 ·injection e with e
  subst e
  rcases hb with ⟨_, v, hv, _⟩ | ⟨_, v, hv, _⟩ <;>
  ·rw [hv] at hk
   injection hk with hk
   injection hk with _ h2
   exact ht.2.2 h2.symm
 ·injection e with _ h2
  exact ht.2.1 h2
theorem Bd.below {B b : Nat} {s : By} {w w' : World} (h : Bd B b s w) (hb : Below w.heap.size w w') : Bd B b s w' := by
 have k : ∀ p, Lib.BuilderAtF 83 5 B b p (Lib.byteCells s) w → Lib.BuilderAtF 83 5 B b p (Lib.byteCells s) w' := fun p ⟨h1, v, h2, h3, h4⟩ =>
  ⟨h1, v, by rw [hb.block b (Array.getElem?_eq_some_iff.1 h2).1]; exact h2, h3.kept (qP hb) (by cases v.ownBlock <;> simp), h4⟩
 exact h.imp (k _) (k _)
theorem byteCells_app (a b : By) : Lib.byteCells (a ++ b) = Lib.byteCells a ++ Lib.byteCells b := by simp [Lib.byteCells]
theorem byteCells_len (a : By) : (Lib.byteCells a).length = a.length := by simp [Lib.byteCells]
theorem ws {B b : Nat} {s : By} {W : World} (x : ByteArray) (h : Bd B b s W) (hB : B ≤ W.heap.size) (hl : s.length + x.size ≤ 1000000000000) :
  Calls Tryz.prog 34 #[.pointer (some ⟨b, 0, none⟩), .string x] W fun e w' => e = .returned (.tuple #[.int .i64 x.size, .nilIface]) ∧ Bd B b (s ++ x.data.toList) w' ∧ FrB B b W w' :=
 (Tryz.Builder_WriteString_k B b (Lib.byteCells s) x W h (by rw [byteCells_len]; omega) hB).mono fun e w' ⟨a, c, d, f⟩ => ⟨a, .inr (by rw [byteCells_app]; exact c), d, f⟩
def zl (B b : Nat) (s t : By) (w : World) (e : Ending) (w' : World) : Prop := e = .returned (.tuple #[]) ∧ Bd B b (s ++ t) w' ∧ FrB B b w w'
abbrev Pw (w : World) : Prop := Lib.TabIs Tryz.prog w "internal/strconv.uint64pow10" .u64 Lib.pow10Tab
structure EnvW (B : Nat) (w : World) : Prop where
 env : Env w
 pow : Pw w
 far : 14 ≤ B
 le : B ≤ w.heap.size
theorem gPow : Tryz.prog.globalNamed "internal/strconv.uint64pow10" = some 7 := by kernel_rfl
theorem Env.low {B : Nat} {w w' : World} (h : Env w) (hb : Below B w w') (hB : 14 ≤ B) : Env w' := by
 have hsz := h.lt
 have hs := hb.size
 obtain ⟨m, hm⟩ := h.max
 obtain ⟨a, b, hsy⟩ := h.syn
 obtain ⟨c, d, hr⟩ := h.rng
 have cell : ∀ x o v, x < 14 → w.cell? ⟨x, o, none⟩ = some v → w'.cell? ⟨x, o, none⟩ = some v := fun x o v hx hv => (World.cell?_of_block (a := ⟨x, o, none⟩) (hb.block x (by omega))).trans hv
 have var : ∀ (nm : String) (g : Nat) (cs : Array Value), g < 14 → Tryz.prog.globalNamed nm = some g → w.var? Tryz.prog nm = some cs → w'.var? Tryz.prog nm = some cs := fun nm g cs hlt hn hv => by
  unfold World.var? at *
  simp only [hn, Option.bind_some] at hv ⊢
  rw [hb.block g (by omega)]
  exact hv
 exact ⟨⟨m, cell _ _ _ (by omega) hm⟩, fun j v hv => cell _ _ _ (by omega) (h.marks j v hv), fun j v hv => cell _ _ _ (by omega) (h.pairs j v hv), ⟨a, b, var _ 12 _ (by omega) gSyn hsy⟩, ⟨c, d, var _ 13 _ (by omega) gRng hr⟩⟩
theorem EnvW.go {B b : Nat} {w w' : World} (h : EnvW B w) (hf : FrB B b w w') : EnvW B w' := by
 refine ⟨h.env.low hf.low h.far, ?_, h.far, Nat.le_trans h.le hf.size⟩
 have hv := h.pow
 unfold Pw Lib.TabIs World.var? at *
 simp only [gPow, Option.bind_some] at hv ⊢
 rw [hf.low.block 7 (by have := h.far; omega)]
 exact hv
theorem zY {S : Nat → Prop} {w : World} {c a n : Int} {nm op : By} {l r g : Tr} {v : Value} (h : ExAt S w (nd c a n nm op l r g) v) :
  ∃ (q : Nat) (vl vr vg : Value) (ys : List Value), S q ∧ v = .pointer (some ⟨q, 0, none⟩) ∧ w.heap[q]? = some (.cells #[.int .i64 c, .int .i64 a, .int .i64 n, str nm, str op, vl, vr, vg] 252) ∧ ExAt S w l vl ∧ ExAt S w r vr ∧ w.ownsRow 0 145 1 vg ys.length ys ∧ (∀ i, vg.ownBlock = some i → S i) ∧ ExAt S w g (.tuple ys.toArray) := by
 rw [ExAt] at h
 exact h
theorem holds_at {S : Nat → Prop} {w : World} {c a n : Int} {nm op : By} {l r g : Tr} {v : Value} (he : Env w) (h : ExAt S w (nd c a n nm op l r g) v) :
  Calls Tryz.prog 209 #[v] w fun e w' => e = .returned (.int .i64 (zK (nd c a n nm op l r g) : Nat)) ∧ Below w.heap.size w w' := by
 obtain ⟨q, vl, vr, vg, ys, _, rfl, hq, _⟩ := zY h
 obtain ⟨y, hy, hyt⟩ := zt op
 rw [hy] at hq
 have c0 := z_ (i := 0) hq rfl
 have c4 := z_ (i := 4) hq rfl
 have HN : Hid (Calls Tryz.prog 152 #[.string y] w fun e w' => e = .returned (.int .i64 (zi op : Nat)) ∧ Below w.heap.size w w') := by
  have := near_any y w he
  rw [hyt] at this
  exact this
 by_cases h3 : c = 3
 ·subst h3
  have HV : Hid (zK (nd 3 a n nm op l r g) = zi op) := by show zK _ = _; simp [zK]
  rw [HV.out]
  clear h hq hy hyt he
  go_enter Tryz.func209, Tryz.ntmps209
  go_wp2_with (go_at_call 152; fail)
  refine HN.out.mono ?_
  rintro e w1 ⟨rfl, hb⟩
  have HB : Hid (Below w.heap.size w w1) := hb
  clear hb
  go_wp2
  go_ret
  exact ⟨rfl, HB.out⟩
 ·by_cases h4 : c = 4
  ·subst h4
   have HV : Hid (zK (nd 4 a n nm op l r g) = 7) := by show zK _ = _; simp [zK]
   rw [HV.out]
   clear h hq hy hyt he h3
   go_enter Tryz.func209, Tryz.ntmps209
   go_wp2
   go_ret
   exact ⟨rfl, Below.refl _ _⟩
  ·have HV : Hid (zK (nd c a n nm op l r g) = 8) := by show zK _ = _; simp [zK, h3, h4]
   rw [HV.out]
   have b3 : (c == 3) = false := by simpa using h3
   have b4 : (c == 4) = false := by simpa using h4
   clear h hq hy hyt he
   go_enter Tryz.func209, Tryz.ntmps209
   go_wp2
   go_ret
   exact ⟨rfl, Below.refl _ _⟩
def WrC (t : Tr) : Prop := ∀ (S : Nat → Prop) (B b : Nat) (s : By) (w : World) (v : Value), EnvW B w → Bd B b s w → ExAt S w t v → s.length + (wrT t).length ≤ 100000000000 → Calls Tryz.prog 101 #[.pointer (some ⟨b, 0, none⟩), v] w (zl B b s (wrT t) w)
theorem item_at {t : Tr} (IH : WrC t) (S : Nat → Prop) (B b : Nat) (s : By) (w : World) (v : Value) (he : EnvW B w) (hb : Bd B b s w) (hx : ExAt S w t v) (hl : s.length + (wrT t).length + 2 ≤ 100000000000) :
  Calls Tryz.prog 100 #[.pointer (some ⟨b, 0, none⟩), v] w (zl B b s ([91] ++ wrT t ++ [93]) w) := by
 have H1 : Hid (Calls Tryz.prog 34 #[.pointer (some ⟨b, 0, none⟩), .string ⟨#[91]⟩] w fun e w' => e = .returned (.tuple #[.int .i64 1, .nilIface]) ∧ Bd B b (s ++ [91]) w' ∧ FrB B b w w') := ws ⟨#[91]⟩ hb he.le (by show _ + 1 ≤ _; omega)
 have H2 : Hid (∀ w1, Bd B b (s ++ [91]) w1 → FrB B b w w1 → Calls Tryz.prog 101 #[.pointer (some ⟨b, 0, none⟩), v] w1 fun e w' => e = .returned (.tuple #[]) ∧ Bd B b (s ++ [91] ++ wrT t) w' ∧ FrB B b w w') := fun w1 h1 h2 => (IH S B b _ w1 v (he.go h2) h1 ((h2.keeps S hb).ex hx) (by simp; omega)).mono fun e w' ⟨a, c, d⟩ => ⟨a, c, h2.trans d⟩
 have H3 : Hid (∀ w1, Bd B b (s ++ [91] ++ wrT t) w1 → FrB B b w w1 → Calls Tryz.prog 34 #[.pointer (some ⟨b, 0, none⟩), .string ⟨#[93]⟩] w1 fun e w' => e = .returned (.tuple #[.int .i64 1, .nilIface]) ∧ Bd B b (s ++ [91] ++ wrT t ++ [93]) w' ∧ FrB B b w w') := fun w1 h1 h2 => (ws ⟨#[93]⟩ h1 (he.go h2).le (by show _ + 1 ≤ _; simp; omega)).mono fun e w' ⟨a, c, d⟩ => ⟨a, c, h2.trans d⟩
 have HPo : Hid (∀ w', Bd B b (s ++ [91] ++ wrT t ++ [93]) w' → FrB B b w w' → zl B b s ([91] ++ wrT t ++ [93]) w (.returned (.tuple #[])) w') := fun w' h1 h2 => ⟨rfl, by simpa using h1, h2⟩
 clear he hb hx hl IH
 go_enter Tryz.func100, Tryz.ntmps100
 go_wp2_with (go_at_call 34; fail)
 refine H1.out.mono ?_
 rintro e w1 ⟨rfl, hd1, hf1⟩
 have HD1 : Hid (Bd B b (s ++ [91]) w1) := hd1
 have HF1 : Hid (FrB B b w w1) := hf1
 clear hd1 hf1
 go_wp2_with (go_at_call 101; fail)
 refine (H2.out w1 HD1.out HF1.out).mono ?_
 rintro e w2 ⟨rfl, hd1, hf1⟩
 have HD2 : Hid (Bd B b (s ++ [91] ++ wrT t) w2) := hd1
 have HF2 : Hid (FrB B b w w2) := hf1
 clear hd1 hf1
 go_wp2_with (go_at_call 34; fail)
 refine (H3.out w2 HD2.out HF2.out).mono ?_
 rintro e w3 ⟨rfl, hd1, hf1⟩
 have HD3 : Hid (Bd B b (s ++ [91] ++ wrT t ++ [93]) w3) := hd1
 have HF3 : Hid (FrB B b w w3) := hf1
 clear hd1 hf1
 go_wp2
 go_end0
 exact HPo.out w3 HD3.out HF3.out
theorem near_le (m : By) : zi m ≤ 6 := by
 rcases near_at pairsL m with ⟨J, h1, _, _, h4⟩ | ⟨_, h2⟩
 ·show ((pairsL.find? (·.1 == m)).map (·.2)).getD 0 ≤ 6
  rw [h4]
  have h6 : ∀ J, J < 13 → (pairsL.getD J ([], 0)).2 ≤ 6 := by decide
  exact h6 J h1
 ·show ((pairsL.find? (·.1 == m)).map (·.2)).getD 0 ≤ 6
  rw [h2]
  omega
theorem hold_len (t : Tr) (k : Nat) (s : By) : s.length ≤ (zJ t k s).length := by
 unfold zJ
 split
 ·exact Nat.le_refl _
 ·split
  ·exact Nat.le_refl _
  ·simp; omega
theorem hold_nd (c a n : Int) (nm op : By) (l r g : Tr) (k : Nat) (s : By) : zJ (nd c a n nm op l r g) k s = if k ≤ zK (nd c a n nm op l r g) then s else [40] ++ s ++ [41] := rfl
theorem held_w {t : Tr} (IH : WrC t) (ht : t = .nil ∨ IsNd t) (k : Nat) (hk : k ≤ 100) (S : Nat → Prop) (B b : Nat) (s : By) (w : World) (v : Value) (he : EnvW B w) (hb : Bd B b s w) (hx : ExAt S w t v) (hl : s.length + (zJ t k (wrT t)).length ≤ 100000000000) :
  Calls Tryz.prog 151 #[.pointer (some ⟨b, 0, none⟩), v, .int .i64 (k : Int)] w (zl B b s (zJ t k (wrT t)) w) := by
 rcases ht with rfl | ⟨c, a, n, nm, op, l, r, g, rfl⟩
 ·have hv : v = .pointer none := by rw [ExAt] at hx; exact hx
  subst hv
  have H1 : Hid (Calls Tryz.prog 101 #[.pointer (some ⟨b, 0, none⟩), .pointer none] w (zl B b s (wrT .nil) w)) := IH S B b s w _ he hb hx (by have := hold_len .nil k (wrT .nil); omega)
  have H1' : Hid (Calls Tryz.prog 101 #[.pointer (some ⟨b, 0, none⟩), .pointer none] w fun e w' => e = .returned (.tuple #[]) ∧ Bd B b (s ++ wrT .nil) w' ∧ FrB B b w w') := H1.out
  have HPo : Hid (∀ w', Bd B b (s ++ wrT .nil) w' → FrB B b w w' → zl B b s (zJ .nil k (wrT .nil)) w (.returned (.tuple #[])) w') := fun w' h1 h2 => ⟨rfl, h1, h2⟩
  generalize hG : zl B b s (zJ .nil k (wrT .nil)) w = G at *
  clear H1 he hb hx hl IH hG
  go_enter Tryz.func151, Tryz.ntmps151
  go_wp2_with (go_at_call 101; fail)
  refine H1'.out.mono ?_
  rintro e w2 ⟨rfl, hd1, hf1⟩
  have HD2 : Hid (Bd B b (s ++ wrT .nil) w2) := hd1
  have HF2 : Hid (FrB B b w w2) := hf1
  clear hd1 hf1
  go_wp2
  refine bodyPost_ret (results_none rfl _ _ _) rfl ?_
  exact HPo.out w2 HD2.out HF2.out
 ·obtain ⟨q, hq⟩ : ∃ q, v = .pointer (some ⟨q, 0, none⟩) := IsNd.ptr (isNd _ _ _ _ _ _ _ _) hx
  subst hq
  obtain ⟨t, htt⟩ : ∃ t, t = nd c a n nm op l r g := ⟨_, rfl⟩
  have HH : Hid (Calls Tryz.prog 209 #[.pointer (some ⟨q, 0, none⟩)] w fun e w' => e = .returned (.int .i64 (zK t : Nat)) ∧ Below w.heap.size w w') := by rw [htt]; exact holds_at he.env hx
  rw [hold_nd]
  rw [← htt] at IH hx hl ⊢
  obtain ⟨hv, hhv⟩ : ∃ hv, hv = zK t := ⟨_, rfl⟩
  have hv100 : hv ≤ 100 := by
   rw [hhv, htt]
   unfold zK
   simp only
   have := near_le op
   split
   ·omega
   ·split <;> omega
  have HX : Hid (ExAt S w t (.pointer (some ⟨q, 0, none⟩))) := hx
  have HE : Hid (EnvW B w) := he
  have HB : Hid (Bd B b s w) := hb
  have HL : Hid (s.length + (wrT t).length ≤ 100000000000) := by show _ ≤ _; have := hold_len t k (wrT t); omega
  have HL2 : Hid (¬ k ≤ zK t → s.length + (wrT t).length + 2 ≤ 100000000000) := fun h => by rw [htt, hold_nd, ← htt, if_neg h] at hl; simp at hl; omega
  have HIH : Hid (WrC t) := IH
  rw [← hhv] at HH HL2 ⊢
  clear he hb hx hl IH hhv htt
  by_cases hle : k ≤ hv
  ·rw [if_pos hle]
   have hd : decide ((hv : Int) < (k : Int)) = false := by simp; omega
   have HPo : Hid (∀ w', Bd B b (s ++ wrT t) w' → FrB B b w w' → zl B b s (wrT t) w (.returned (.tuple #[])) w') := fun w' h1 h2 => ⟨rfl, h1, h2⟩
   generalize hG : zl B b s (wrT t) w = G at *
   clear hG
   go_enter Tryz.func151, Tryz.ntmps151
   go_wp2_with (go_at_call 209; fail)
   refine HH.out.mono ?_
   rintro e w1 ⟨rfl, hb1⟩
   have HB1 : Hid (Below w.heap.size w w1) := hb1
   clear hb1
   go_wp2_with (go_at_call 101; fail)
   have hf := FrB.of (b := b) HB1.out HE.out.le
   refine (HIH.out S B b s w1 _ (HE.out.go hf) (HB.out.below HB1.out) ((hf.keeps S HB.out).ex HX.out) (by have := HL.out; omega)).mono ?_
   rintro e w2 ⟨rfl, hd1, hf1⟩
   have HD2 : Hid (Bd B b (s ++ wrT t) w2) := hd1
   have HF2 : Hid (FrB B b w w2) := hf.trans hf1
   clear hd1 hf1 hf
   go_wp2
   refine bodyPost_ret (results_none rfl _ _ _) rfl ?_
   exact HPo.out w2 HD2.out HF2.out
  ·rw [if_neg hle]
   have HL3 : Hid (s.length + (wrT t).length + 2 ≤ 100000000000) := HL2.out hle
   have HPo : Hid (∀ w', Bd B b (s ++ [40] ++ wrT t ++ [41]) w' → FrB B b w w' → zl B b s ([40] ++ wrT t ++ [41]) w (.returned (.tuple #[])) w') := fun w' h1 h2 => ⟨rfl, by simpa using h1, h2⟩
   generalize hG : zl B b s ([40] ++ wrT t ++ [41]) w = G at *
   clear hG
   go_enter Tryz.func151, Tryz.ntmps151
   go_wp2_with (go_at_call 209; fail)
   refine HH.out.mono ?_
   rintro e w1 ⟨rfl, hb1⟩
   have hf := FrB.of (b := b) hb1 HE.out.le
   have HF1 : Hid (FrB B b w w1) := hf
   have HD1 : Hid (Bd B b s w1) := HB.out.below hb1
   clear hb1 hf
   go_wp2_with (go_at_call 34; fail)
   refine (ws ⟨#[40]⟩ HD1.out (HE.out.go HF1.out).le (by show _ + 1 ≤ _; have := HL3.out; omega)).mono ?_
   rintro e w2 ⟨rfl, hd2, hf2⟩
   have HD2 : Hid (Bd B b (s ++ [40]) w2) := hd2
   have HF2 : Hid (FrB B b w w2) := HF1.out.trans hf2
   clear hd2 hf2
   go_wp2_with (go_at_call 101; fail)
   refine (HIH.out S B b _ w2 _ (HE.out.go HF2.out) HD2.out ((HF2.out.keeps S HB.out).ex HX.out) (by have := HL3.out; simp; omega)).mono ?_
   rintro e w3 ⟨rfl, hd3, hf3⟩
   have HD3 : Hid (Bd B b (s ++ [40] ++ wrT t) w3) := hd3
   have HF3 : Hid (FrB B b w w3) := HF2.out.trans hf3
   clear hd3 hf3
   go_wp2_with (go_at_call 34; fail)
   refine (ws ⟨#[41]⟩ HD3.out (HE.out.go HF3.out).le (by show _ + 1 ≤ _; have := HL3.out; simp; omega)).mono ?_
   rintro e w4 ⟨rfl, hd4, hf4⟩
   have HD4 : Hid (Bd B b (s ++ [40] ++ wrT t ++ [41]) w4) := hd4
   have HF4 : Hid (FrB B b w w4) := HF3.out.trans hf4
   clear hd4 hf4
   go_wp2
   go_end0
   exact HPo.out w4 HD4.out HF4.out
theorem qu (a b : ByteArray) : (a ++ b).data.toList = a.data.toList ++ b.data.toList := by simp
theorem je (a b : ByteArray) : (a ++ b).size = a.size + b.size := by simp
def zB : List Tr → By
 | [] => []
 | [x] => wrT x
 | x :: y :: xs => wrT x ++ [44, 32] ++ zB (y :: xs)
theorem join_chain : ∀ xs : List Tr, wrT (chain xs) = zB xs
 | [] => by simp [chain, wrT, zB]
 | [x] => by simp [chain, wrT, zB, sep]
 | x :: y :: xs => by
  have ih := join_chain (y :: xs)
  have e : wrT (chain (x :: y :: xs)) = wrT x ++ sep (chain (y :: xs)) ++ wrT (chain (y :: xs)) := by
   show wrT (.slice [x] [chain (y :: xs)]) = _
   rw [wrT]
  rw [e, ih]
  rfl
theorem join_snoc (x : Tr) : ∀ l : List Tr, zB (l ++ [x]) = zB l ++ (if l = [] then [] else [44, 32]) ++ wrT x
 | [] => by simp [zB]
 | [y] => by simp [zB]
 | y :: z :: l => by
  have ih := join_snoc x (z :: l)
  simp only [List.cons_append, zB] at ih ⊢
  rw [ih]
  simp
theorem join_len : ∀ (xs : List Tr) (i : Nat), (zB (xs.take i)).length ≤ (zB xs).length
 | [], i => by simp [zB]
 | [x], 0 => by simp [zB]
 | [x], i + 1 => by simp [zB]
 | x :: y :: xs, 0 => by simp [zB]
 | x :: y :: xs, 1 => by simp [zB]
 | x :: y :: xs, i + 2 => by
  have ih := join_len (y :: xs) (i + 1)
  simp only [List.take_succ_cons, zB, List.length_append] at ih ⊢
  omega
theorem chain_open {S : Nat → Prop} {w : World} : ∀ (ys : List Value) (g : Tr), ExAt S w g (.tuple ys.toArray) → ∃ xs, g = chain xs ∧ xs.length = ys.length ∧ ∀ (i : Nat) (x : Tr) (y : Value), xs[i]? = some x → ys[i]? = some y → ExAt S w x y
 | [], g, h => by
  unfold ExAt at h
  split at h
  ·obtain ⟨_, _, _, _, _, _, e, _⟩ := h; cases e
  ·obtain ⟨y, ys, e, _⟩ := h
   injection e with e
   have := congrArg Array.toList e
   simp at this
  ·exact ⟨[], rfl, rfl, fun i x y h => by simp at h⟩
  ·cases h
  ·exact h.elim
 | y :: ys, g, h => by
  unfold ExAt at h
  split at h
  ·obtain ⟨_, _, _, _, _, _, e, _⟩ := h; cases e
  ·rename_i x g'
   obtain ⟨y', ys', e, hx, hg⟩ := h
   injection e with e
   have e2 := congrArg Array.toList e
   simp at e2
   obtain ⟨rfl, rfl⟩ := e2
   obtain ⟨xs, rfl, hl, hi⟩ := chain_open ys _ hg
   refine ⟨x :: xs, rfl, by simp [hl], fun i a b ha hb => ?_⟩
   cases i with
   | zero =>
    simp at ha hb
    subst ha; subst hb
    exact hx
   | succ i => exact hi i a b (by simpa using ha) (by simpa using hb)
  ·injection h with h
   have := congrArg Array.toList h
   simp at this
  ·cases h
  ·exact h.elim
theorem call_w {xs : List Tr} (IH : ∀ x ∈ xs, WrC x) (S : Nat → Prop) (B b : Nat) (s : By) (w : World) (cl : ByteArray) (q : Option Addr) (n c : Nat) (ys : List Value) (he : EnvW B w) (hb : Bd B b s w) (ho : w.ownsRow 0 145 1 (.slice q n c) n ys) (hn : n = xs.length) (hys : ys.length = n) (hx : ∀ (i : Nat) (x : Tr) (y : Value), xs[i]? = some x → ys[i]? = some y → ExAt S w x y) (hl : s.length + cl.size + (zB xs).length + 2 ≤ 100000000000) (hn2 : n ≤ 1000000) :
  Calls Tryz.prog 153 #[.pointer (some ⟨b, 0, none⟩), .string cl, .slice q n c] w (zl B b s ((cl.data.toList ++ [40]) ++ zB xs ++ [41]) w) := by
 have HPo : Hid (∀ w', Bd B b (s ++ (cl.data.toList ++ [40]) ++ zB xs ++ [41]) w' → FrB B b w w' → zl B b s ((cl.data.toList ++ [40]) ++ zB xs ++ [41]) w (.returned (.tuple #[])) w') := fun w' h1 h2 => ⟨rfl, by simpa using h1, h2⟩
 generalize hG : zl B b s ((cl.data.toList ++ [40]) ++ zB xs ++ [41]) w = G at *
 have HE : Hid (EnvW B w) := he
 have HB : Hid (Bd B b s w) := hb
 have HL : Hid (s.length + cl.size + (zB xs).length + 2 ≤ 100000000000) := hl
 have HO : Hid (w.ownsRow 0 145 1 (.slice q n c) n ys) := ho
 have HN : Hid (n = xs.length ∧ ys.length = n) := ⟨hn, hys⟩
 have HX : Hid (∀ (i : Nat) (x : Tr) (y : Value), xs[i]? = some x → ys[i]? = some y → ExAt S w x y) := hx
 have HIH : Hid (∀ x ∈ xs, WrC x) := IH
 have hcl : cl.size ≤ 100000000000 := by omega
 clear hG he hb hl ho hn hys hx IH
 go_enter Tryz.func153, Tryz.ntmps153
 go_wp2_with (go_at_call 34; fail)
 generalize hx1 : cl ++ (⟨#[40]⟩ : ByteArray) = x1
 have hz1 : x1.size = cl.size + 1 := by rw [← hx1, je]; rfl
 have ht1 : x1.data.toList = cl.data.toList ++ [40] := by rw [← hx1, qu]
 refine (ws x1 HB.out HE.out.le (by have := HL.out; omega)).mono ?_
 rintro e w1 ⟨rfl, hd1, hf1⟩
 rw [ht1] at hd1
 clear hx1 hz1 ht1
 have HD1 : Hid (Bd B b (s ++ (cl.data.toList ++ [40])) w1) := hd1
 have HF1 : Hid (FrB B b w w1) := hf1
 clear hd1 hf1
 have HT : Hid (∀ i, i ≤ n → (zB (xs.take i)).length ≤ (zB xs).length) := fun i hi => join_len xs i
 have hi0 : Hid (Bd B b (s ++ (cl.data.toList ++ [40]) ++ zB (xs.take 0)) w1 ∧ FrB B b w w1) := ⟨by simpa [zB] using HD1.out, HF1.out⟩
 go_wp2_with fail
 go_loopw [14] (fun v wr => ∃ i : Nat, i ≤ n ∧ v = .int .i64 i ∧ Hid (Bd B b (s ++ (cl.data.toList ++ [40]) ++ zB (xs.take i)) wr ∧ FrB B b w wr)) (fun v _ => n - (intOf v).toNat)
 case atStart => exact ⟨0, Nat.zero_le _, rfl, hi0.out⟩
 case round =>
  clear hi0
  obtain ⟨i, hin, rfl, HI⟩ := hrel
  by_cases hlt : i < n
  ·obtain ⟨g, cap, e, -, -⟩ := HO.out.form (by omega)
   injection e with e1 e2 e3
   subst e1
   clear e2 e3
   obtain ⟨hN1, hN2⟩ := HN.out
   obtain ⟨x, hx⟩ : ∃ x, xs[i]? = some x := ⟨xs[i]'(by omega), List.getElem?_eq_getElem (by omega)⟩
   obtain ⟨y, hy⟩ : ∃ y, ys[i]? = some y := ⟨ys[i]'(by omega), List.getElem?_eq_getElem (by omega)⟩
   have hrow := (HI.out.2.keeps (fun _ => True) HB.out).row (by decide) HO.out (fun _ _ => trivial)
   have hc : wr.cell? ⟨g, i, none⟩ = some y := by
    have := hrow.cells (g := g) rfl i y hy
    by_cases h : i = 0
    ·subst h
     simpa [Addr.add] using this
    ·simpa [Addr.add, h] using this
   have HXi : Hid (ExAt S w x y) := HX.out i x y hx hy
   have HWx : Hid (WrC x) := HIH.out x (List.mem_of_getElem? hx)
   have htk : xs.take (i + 1) = xs.take i ++ [x] := by rw [List.take_add_one, hx]; rfl
   have hj := join_snoc x (xs.take i)
   rw [← htk] at hj
   have HJ : Hid (zB (xs.take (i + 1)) = zB (xs.take i) ++ (if xs.take i = [] then [] else [44, 32]) ++ wrT x) := hj
   have hlen := HT.out (i + 1) (by omega)
   rw [hj] at hlen
   simp only [List.length_append] at hlen
   have HLn : Hid ((zB (xs.take i)).length + ((if xs.take i = [] then [] else [44, 32]) : By).length + (wrT x).length ≤ (zB xs).length) := by show _ ≤ _; omega
   have HNn : Hid (xs.length = n) := hN1.symm
   clear hN1 hN2 hx hy hrow htk hj hlen
   by_cases h0 : i = 0
   ·subst h0
    go_wp2_with (go_at_call 101; fail)
    refine (HWx.out S B b _ wr y (HE.out.go HI.out.2) HI.out.1 ((HI.out.2.keeps S HB.out).ex HXi.out) (by have := HL.out; have := HLn.out; simp at this ⊢; omega)).mono ?_
    rintro e w3 ⟨rfl, hd3, hf3⟩
    have HEnd : Hid (Bd B b (s ++ (cl.data.toList ++ [40]) ++ zB (xs.take (0 + 1))) w3 ∧ FrB B b w w3) := by
     refine ⟨?_, HI.out.2.trans hf3⟩
     rw [HJ.out]
     simpa [zB] using hd3
    clear hd3 hf3
    go_wp2
    exact ⟨⟨1, by omega, by go_num, HEnd.out⟩, by simp [intOf]; omega⟩
   ·have hpos : 0 < i := by omega
    have HNe : Hid (¬ xs.take i = []) := fun e => by
     have := congrArg List.length e
     rw [List.length_take, HNn.out] at this
     simp at this
     omega
    go_wp2_with (go_at_call 34; fail)
    refine (ws ⟨#[44, 32]⟩ HI.out.1 (HE.out.go HI.out.2).le (by show _ + 2 ≤ _; have := HL.out; have := HLn.out; rw [if_neg HNe.out] at this; simp at this ⊢; have : cl.data.size = cl.size := rfl; omega)).mono ?_
    rintro e w2 ⟨rfl, hd2, hf2⟩
    have HD2 : Hid (Bd B b (s ++ (cl.data.toList ++ [40]) ++ zB (xs.take i) ++ [44, 32]) w2) := hd2
    have HF2 : Hid (FrB B b w w2) := HI.out.2.trans hf2
    clear hd2 hf2
    go_wp2_with (go_at_call 101; fail)
    refine (HWx.out S B b _ w2 y (HE.out.go HF2.out) HD2.out ((HF2.out.keeps S HB.out).ex HXi.out) (by have := HL.out; have := HLn.out; rw [if_neg HNe.out] at this; simp at this ⊢; have : cl.data.size = cl.size := rfl; omega)).mono ?_
    rintro e w3 ⟨rfl, hd3, hf3⟩
    have HEnd : Hid (Bd B b (s ++ (cl.data.toList ++ [40]) ++ zB (xs.take (i + 1))) w3 ∧ FrB B b w w3) := by
     refine ⟨?_, HF2.out.trans hf3⟩
     rw [HJ.out, if_neg HNe.out]
     simpa using hd3
    clear hd3 hf3
    go_wp2
    exact ⟨⟨i + 1, by omega, by go_num, HEnd.out⟩, by simp [intOf]; omega⟩
  ·obtain rfl : i = n := by omega
   have HAll : Hid (Bd B b (s ++ (cl.data.toList ++ [40]) ++ zB xs) wr ∧ FrB B b w wr) := by
    have h := HI.out
    rw [List.take_of_length_le (by rw [HN.out.1]; exact Nat.le_refl _)] at h
    exact h
   go_wp2_with (go_at_call 34; fail)
   refine (ws ⟨#[41]⟩ HAll.out.1 (HE.out.go HAll.out.2).le (by show _ + 1 ≤ _; have := HL.out; simp; have : cl.data.size = cl.size := rfl; omega)).mono ?_
   rintro e w2 ⟨rfl, hd2, hf2⟩
   have HD2 : Hid (Bd B b (s ++ (cl.data.toList ++ [40]) ++ zB xs ++ [41]) w2) := hd2
   have HF2 : Hid (FrB B b w w2) := HAll.out.2.trans hf2
   clear hd2 hf2
   go_wp2
   go_end0
   exact HPo.out w2 HD2.out HF2.out
end Go.Proofs.YtnfhpdbbfejioaaGreatDoor
