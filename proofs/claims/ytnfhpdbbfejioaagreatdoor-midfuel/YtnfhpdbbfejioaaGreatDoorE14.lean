/- UK V1 V2 V3 V4 V6 VD V7 -/
import Derived.Test.YtnfhpdbbfejioaaGreatDoorE13
import Derived.Lib.AppendIntMem
import Derived.Deep.DeepCutAuto
import Derived.Lib.ItoaLen
namespace Go.Proofs.YtnfhpdbbfejioaaGreatDoor
set_option linter.unusedVariables false
set_option linter.unusedSimpArgs false
set_option maxRecDepth 100000
set_option maxHeartbeats 16000000
open Go Go.RowKit
theorem one_kind {rest : By} {k : Nat} {t : By} (h : oneTok rest = some (k, t)) : k ≤ 2 := by
 unfold oneTok at h
 split at h
 ·injection h with h
  injection h with h _
  omega
 ·split at h
  ·injection h with h
   injection h with h _
   split at h <;> omega
  ·obtain ⟨m, hm, he⟩ := Option.map_eq_some_iff.1 h
   injection he with he _
   omega
theorem cut_ends (n : Nat) : ∀ (f : Nat) (rest : By) (l r : List Tok), rest.length + 1 ≤ f → rest.length ≤ 1000000 → (∀ x ∈ l, x.k ≠ 3 ∧ x.t ≠ [] ∧ x.t.length ≤ 1000000) → l.length ≤ 1500 → cutV n f rest l = .ok r → Ends r ∧ r.length ≤ 1501
 | 0, rest, l, r, h1, h2, h3, h4, h => by omega
 | f + 1, rest, l, r, h1, h2, h3, h4, h => by
  rw [cutV] at h
  split at h
  ·injection h with h
   subst h
   exact ⟨⟨l, ⟨3, [], n⟩, rfl, rfl, rfl, h3⟩, by simp; omega⟩
  ·split at h
   ·cases h
   ·rename_i k t ho
    split at h
    ·cases h
    ·rename_i hl
     obtain ⟨p1, p2⟩ := one_pos ho
     have pk := one_kind ho
     have hs := qD false (rest.drop t.length)
     rw [List.length_drop] at hs
     refine cut_ends n f _ _ r (by omega) (by omega) (fun x hx => ?_) (by simp; omega) h
     rcases List.mem_append.1 hx with hx | hx
     ·exact h3 x hx
     ·rw [List.mem_singleton] at hx
      subst hx
      exact ⟨by show k ≠ 3; omega, by show t ≠ []; intro e; rw [e] at p1; simp at p1, by show t.length ≤ _; omega⟩
theorem tok_ends {s : By} {r : List Tok} (h : tokV s = .ok r) (hs : s.length ≤ 1000000) : Ends r ∧ r.length ≤ 1501 := by
 have h1 := qD false s
 exact cut_ends s.length _ _ [] r (by omega) (by omega) (by simp) (by simp) h
def qh (s : By) : Except (Int × Nat) Tr :=
 match tokV s with
 | .error e => .error e
 | .ok l => match qE (l.length + 1) 0 l with
  | .error e => .error e
  | .ok (t, _) => .ok t
def ParsePost (w : World) (r : Except (Int × Nat) Tr) (e : Ending) (w' : World) : Prop :=
 match r with
 | .ok t => (∃ v n cs, e = .returned (.tuple #[v, .nilIface]) ∧ w'.ownsRow w.heap.size 86 4 v n cs ∧ FnAt (Fr w.heap.size) w' t cs) ∧ Below w.heap.size w w'
 | .error (k, p) => (∃ a, e = .returned (.tuple #[.slice none 0 0, .iface 72 (.pointer (some ⟨a, 0, none⟩))]) ∧ w'.heap[a]? = some (.cells #[.int .i64 k, .int .i64 (p : Int)] 139)) ∧ Below w.heap.size w w'
theorem Env.lt {w : World} (h : Env w) : 14 ≤ w.heap.size := by
 obtain ⟨c, d, hr⟩ := h.rng
 unfold World.var? at hr
 simp only [gRng, Option.bind_some] at hr
 rcases Nat.lt_or_ge 13 w.heap.size with h1 | h1
 ·omega
 ·rw [Array.getElem?_eq_none h1] at hr; simp at hr
theorem tkc_get : ∀ (l : List Tok) (j : Nat) (t : Tok), l[j]? = some t → (tkc l)[j * 3]? = some (.int .i64 (t.k : Int)) ∧ (tkc l)[j * 3 + 1]? = some (str t.t) ∧ (tkc l)[j * 3 + 2]? = some (.int .i64 (t.p : Int))
 | [], j, t, h => by simp at h
 | x :: l, 0, t, h => by
  simp at h
  subst h
  exact ⟨rfl, rfl, rfl⟩
 | x :: l, j + 1, t, h => by
  have ih := tkc_get l j t (by simpa using h)
  have e : ∀ i, (tkc (x :: l))[i + 3]? = (tkc l)[i]? := fun i => rfl
  rw [show (j + 1) * 3 = j * 3 + 3 by omega, show j * 3 + 3 + 1 = j * 3 + 1 + 3 by omega, show j * 3 + 3 + 2 = j * 3 + 2 + 3 by omega, e, e, e]
  exact ih
theorem ps_of {w : World} {B T c : Nat} {l : List Tok} (h : w.ownsRow B 136 3 (.slice (some ⟨T, 0, none⟩) l.length c) l.length (tkc l)) : PS (w.alloc (.cells #[.slice (some ⟨T, 0, none⟩) l.length c] 78)) w.heap.size T 0 c l := by
 rcases h.2 with ⟨h1, _⟩ | ⟨g, cap, cur, hv, hb, hg, hn, hm, hs, ht⟩
 ·cases h1
 ·injection hv with hv1 _ hv3
  injection hv1 with hv1
  injection hv1 with hv1
  subst hv1
  subst hv3
  have hlt : T < w.heap.size := (Array.getElem?_eq_some_iff.1 hg).1
  refine ⟨heap_alloc_last w _, hn, by omega, fun j t hj => ?_⟩
  have hjl : j < l.length := (List.getElem?_eq_some_iff.1 hj).1
  obtain ⟨a, b, d⟩ := tkc_get l j t hj
  have hc : ∀ i v, i < l.length * 3 → (tkc l)[i]? = some v → (w.alloc (.cells #[.slice (some ⟨T, 0, none⟩) l.length c] 78)).cell? ⟨T, 0 + i, none⟩ = some v := fun i v hi hv => by
   rw [Nat.zero_add]
   refine z_ (qJ hg _) ?_
   rw [← ht, List.getElem?_take_of_lt hi, Array.getElem?_toList] at hv
   exact hv
  have h1 := hc (j * 3) _ (by omega) a
  have h2 := hc (j * 3 + 1) _ (by omega) b
  have h3 := hc (j * 3 + 2) _ (by omega) d
  exact ⟨h1, h2, h3⟩
theorem gr_to_below {P B : Nat} {a b : World} (h : Gr P a b) (hP : B ≤ P) (hB : B ≤ a.heap.size) : Below B a b := ⟨h.os, h.tape, h.output, h.size, fun k hk => h.block k (by omega) (by intro e; injection e with e; omega)⟩
theorem res8 (tmps : Array Value) (W : World) (b1 b2 : Nat) (x y : Value) (hp1 : tmps[2]?.getD undef = .pointer (some ⟨b1, 0, none⟩)) (hp2 : tmps[3]?.getD undef = .pointer (some ⟨b2, 0, none⟩)) (h1 : W.cell? ⟨b1, 0, none⟩ = some x) (h2 : W.cell? ⟨b2, 0, none⟩ = some y) :
  (results Tryz.f14 tmps).run Tryz.prog W = .ok (.tuple #[x, y]) W := by
 simp [results, Tryz.results14, go_sem, hp1, hp2, h1, h2]
theorem parse_any (s : ByteArray) (w : World) (he : Env w) (hs : s.size ≤ 1000000) : Calls Tryz.prog 14 #[.string s] w (ParsePost w (qh s.data.toList)) := by
 have hmf : ∀ (fn : Fn) (first cap : Array Value) (w : World), (Instr.makeFunc fn first cap).run Tryz.prog w = .ok (.func fn first cap) w := fun _ _ _ _ => rfl
 obtain ⟨W0, hW0⟩ : ∃ W0, W0 = ((w.alloc (.cells #[.slice none 0 0] 24)).alloc (.cells #[.nilIface] 34)) := ⟨_, rfl⟩
 have hb0 : Below w.heap.size w W0 := by
  rw [hW0]
  exact ((Below.refl _ _).alloc (Nat.le_refl _) _).alloc (by simp) _
 have hz0 : W0.heap.size = w.heap.size + 2 := by rw [hW0]; simp
 have hl0 : W0.heap[w.heap.size]? = some (.cells #[.slice none 0 0] 24) := by
  rw [hW0]
  exact qJ (heap_alloc_last w _) _
 have he0 : W0.heap[w.heap.size + 1]? = some (.cells #[.nilIface] 34) := by
  rw [hW0]
  have := heap_alloc_last (w.alloc (.cells #[.slice none 0 0] 24)) (.cells #[.nilIface] 34)
  simpa using this
 have HCut : Hid (Calls Tryz.prog 32 #[.string s] W0 fun e w' => CutPost W0 (tokV s.data.toList) e w' ∧ Below W0.heap.size W0 w') := cut_any s W0 (he.below hb0) hs
 have HB0 : Hid (Below w.heap.size w W0) := hb0
 have HZ0 : Hid (W0.heap.size = w.heap.size + 2) := hz0
 have HL0 : Hid (W0.heap[w.heap.size]? = some (.cells #[.slice none 0 0] 24)) := hl0
 have HE0 : Hid (W0.heap[w.heap.size + 1]? = some (.cells #[.nilIface] 34)) := he0
 have HE : Hid (Env w) := he
 have HS : Hid (s.data.toList.length ≤ 1000000) := by show _ ≤ _; simpa using hs
 obtain ⟨sl, hsl⟩ : ∃ sl, sl = s.data.toList := ⟨_, rfl⟩
 rw [← hsl] at HCut HS ⊢
 have HG0 : Hid (∀ e w', ParsePost w (qh sl) e w' → ParsePost w (qh sl) e w') := fun _ _ h => h
 generalize hG : ParsePost w (qh sl) = G at *
 clear HG0
 have HG0 : Hid (∀ e w', ParsePost w (qh sl) e w' → G e w') := fun e w' h => by rw [← hG]; exact h
 clear he hs hb0 hz0 hl0 he0 hsl hG
 have HEnd : Hid (∀ (k : Int) (p a : Nat) (W : World), W.heap[a]? = some (.cells #[.int .i64 k, .int .i64 (p : Int)] 139) → Below W0.heap.size W0 W → qh sl = .error (k, p) →
   W.cell? ⟨w.heap.size, 0, none⟩ = some (.slice none 0 0) ∧ W.cell? ⟨w.heap.size + 1, 0, none⟩ = some .nilIface ∧ W.frozen? ⟨w.heap.size, 0, none⟩ = false ∧ W.frozen? ⟨w.heap.size + 1, 0, none⟩ = false ∧
   ((W.setCell ⟨w.heap.size, 0, none⟩ (.slice none 0 0)).setCell ⟨w.heap.size + 1, 0, none⟩ (.iface 72 (.pointer (some ⟨a, 0, none⟩)))).cell? ⟨w.heap.size, 0, none⟩ = some (.slice none 0 0) ∧
   ((W.setCell ⟨w.heap.size, 0, none⟩ (.slice none 0 0)).setCell ⟨w.heap.size + 1, 0, none⟩ (.iface 72 (.pointer (some ⟨a, 0, none⟩)))).cell? ⟨w.heap.size + 1, 0, none⟩ = some (.iface 72 (.pointer (some ⟨a, 0, none⟩))) ∧
   G (.returned (.tuple #[.slice none 0 0, .iface 72 (.pointer (some ⟨a, 0, none⟩))])) ((W.setCell ⟨w.heap.size, 0, none⟩ (.slice none 0 0)).setCell ⟨w.heap.size + 1, 0, none⟩ (.iface 72 (.pointer (some ⟨a, 0, none⟩))))) := fun k p a W ha hb hr => by
  have hz := HZ0.out
  have hl : W.heap[w.heap.size]? = some (.cells #[.slice none 0 0] 24) := by rw [hb.block _ (by omega)]; exact HL0.out
  have he : W.heap[w.heap.size + 1]? = some (.cells #[.nilIface] 34) := by rw [hb.block _ (by omega)]; exact HE0.out
  have n1 : a ≠ w.heap.size := fun e => by
   rw [e, hl] at ha
   injection ha with ha
   injection ha with _ h2
   exact absurd h2 (by decide)
  have n2 : a ≠ w.heap.size + 1 := fun e => by
   rw [e, he] at ha
   injection ha with ha
   injection ha with _ h2
   exact absurd h2 (by decide)
  have c1 := z_ (i := 0) hl rfl
  have c2 := z_ (i := 0) he rfl
  have l2 : (W.setCell ⟨w.heap.size, 0, none⟩ (.slice none 0 0)).heap[w.heap.size]? = some (.cells #[.slice none 0 0] 24) := heap_setCell_same _ _ _ _ _ _ hl
  have e2 : (W.setCell ⟨w.heap.size, 0, none⟩ (.slice none 0 0)).heap[w.heap.size + 1]? = some (.cells #[.nilIface] 34) := by
   rw [heap_setCell_other _ _ _ _ (by show w.heap.size + 1 ≠ w.heap.size; omega)]
   exact he
  have l3 : ((W.setCell ⟨w.heap.size, 0, none⟩ (.slice none 0 0)).setCell ⟨w.heap.size + 1, 0, none⟩ (.iface 72 (.pointer (some ⟨a, 0, none⟩)))).heap[w.heap.size]? = some (.cells #[.slice none 0 0] 24) := by
   rw [heap_setCell_other _ _ _ _ (by show w.heap.size ≠ w.heap.size + 1; omega)]
   exact l2
  have e3 : ((W.setCell ⟨w.heap.size, 0, none⟩ (.slice none 0 0)).setCell ⟨w.heap.size + 1, 0, none⟩ (.iface 72 (.pointer (some ⟨a, 0, none⟩)))).heap[w.heap.size + 1]? = some (.cells #[.iface 72 (.pointer (some ⟨a, 0, none⟩))] 34) := heap_setCell_same _ _ _ _ _ _ e2
  refine ⟨c1, c2, zb hl 0, zb he 0, z_ (i := 0) l3 rfl, z_ (i := 0) e3 rfl, HG0.out _ _ ?_⟩
  rw [hr]
  refine ⟨⟨a, rfl, ?_⟩, ?_⟩
  ·rw [heap_setCell_other _ _ _ _ (by show a ≠ w.heap.size + 1; exact n2), heap_setCell_other _ _ _ _ (by show a ≠ w.heap.size; exact n1)]
   exact ha
  ·exact ((HB0.out.trans (hb.mono (by omega))).setCell (p := ⟨w.heap.size, 0, none⟩) (Nat.le_refl _) _).setCell (p := ⟨w.heap.size + 1, 0, none⟩) (by show w.heap.size ≤ w.heap.size + 1; omega) _
 go_enter_defers Tryz.func14, Tryz.ntmps14
 go_wp2_with (go_at_call 32; fail)
 rw [← hW0]
 clear hW0
 refine HCut.out.mono ?_
 rintro e w1 ⟨hc, hb1⟩
 cases hr : tokV sl with
 | error kp =>
  obtain ⟨k, p⟩ := kp
  rw [hr] at hc
  obtain ⟨a, rfl, ha⟩ := hc
  have hp : qh sl = .error (k, p) := by unfold qh; rw [hr]
  obtain ⟨c1, c2, f1, f2, d1, d2, hG⟩ := HEnd.out k p a w1 ha hb1 hp
  refine leaves_cons (f := 31) (args := #[.pointer (some ⟨w.heap.size, 0, none⟩), .pointer (some ⟨w.heap.size + 1, 0, none⟩)]) (by simp) (by simp [go_sem]) ?_
  refine (catch_threw w.heap.size (w.heap.size + 1) a _ _ w1 c1 c2 f1 f2 (by omega)).mono ?_
  rintro e u' w2 ⟨rfl, rfl, rfl⟩
  exact ⟨_, res8 _ _ w.heap.size (w.heap.size + 1) _ _ rfl rfl d1 d2, hG⟩
 | ok l =>
  rw [hr] at hc
  obtain ⟨v, rfl, hrow⟩ := hc
  obtain ⟨hends, hlen⟩ := tok_ends hr HS.out
  obtain ⟨T, cp, rfl, hT1, hT2⟩ := hrow.form hends.pos
  have HPS : Hid (PS (w1.alloc (.cells #[.slice (some ⟨T, 0, none⟩) l.length cp] 78)) w1.heap.size T 0 cp l) := ps_of hrow
  have HB1 : Hid (Below W0.heap.size W0 w1) := hb1
  have HEn : Hid (Ends l) := hends
  have HLn : Hid (l.length ≤ 1501) := hlen
  have HR : Hid (tokV sl = .ok l) := hr
  clear hb1 hrow hT1 hT2 hends hr
  obtain ⟨ln, hln⟩ : ∃ ln, l.length = ln := ⟨_, rfl⟩
  have HLN : Hid (l.length = ln) := hln
  rw [hln] at HPS ⊢
  clear hln hlen
  go_wp2_with (go_at_call 33; fail)
  obtain ⟨W2, hW2⟩ : ∃ W2, W2 = w1.alloc (.cells #[.slice (some ⟨T, 0, none⟩) ln cp] 78) := ⟨_, rfl⟩
  obtain ⟨P, hP⟩ : ∃ P, P = w1.heap.size := ⟨_, rfl⟩
  have hz := HZ0.out
  have hs1 := HB1.out.size
  have HPS2 : Hid (PS W2 P T 0 cp l) := by show PS _ _ _ _ _ _; rw [hW2, hP]; exact HPS.out
  have HB2 : Hid (Below W0.heap.size W0 W2) := by show Below _ _ _; rw [hW2]; exact HB1.out.alloc hs1 _
  have HPB : Hid (W0.heap.size ≤ P ∧ P < W2.heap.size) := by show _ ∧ _; rw [hW2, hP]; exact ⟨hs1, by simp⟩
  rw [← hW2, ← hP]
  clear hW2 hP HPS HB1 hz hs1
  have hA : At W2 P T 0 cp 0 l := ⟨HE.out.below (HB0.out.trans (HB2.out.mono (by have := HZ0.out; omega))), HPS2.out, HEn.out, by have := HE.out.lt; have := HPB.out; have := HZ0.out; omega, by have := HLn.out; omega⟩
  refine (program_walk W2 P T 0 cp l hA).mono ?_
  rintro e w3 (⟨t, l', v, n, cs, hr, rfl, hrow, hx, hg⟩ | ⟨k, p, hr, ⟨a, rfl, ha⟩, hg⟩)
  rotate_left
  ·have hb3 : Below W0.heap.size W0 w3 := HB2.out.trans (gr_to_below hg HPB.out.1 HB2.out.size)
   have hp : qh sl = .error (k, p) := by unfold qh; rw [HR.out]; show (match qE (l.length + 1) 0 l with | .error e => _ | .ok (t, _) => _) = _; rw [hr]
   obtain ⟨c1, c2, f1, f2, d1, d2, hG⟩ := HEnd.out k p a w3 ha hb3 hp
   refine leaves_cons (f := 31) (args := #[.pointer (some ⟨w.heap.size, 0, none⟩), .pointer (some ⟨w.heap.size + 1, 0, none⟩)]) (by simp) (by simp [go_sem]) ?_
   refine (catch_threw w.heap.size (w.heap.size + 1) a _ _ w3 c1 c2 f1 f2 (by omega)).mono ?_
   rintro e u' w4 ⟨rfl, rfl, rfl⟩
   exact ⟨_, res8 _ _ w.heap.size (w.heap.size + 1) _ _ rfl rfl d1 d2, hG⟩
  obtain ⟨qv, cv, rfl⟩ := zd hrow
  have hb3 : Below W0.heap.size W0 w3 := HB2.out.trans (gr_to_below hg HPB.out.1 HB2.out.size)
  have hz := HZ0.out
  have hl : w3.heap[w.heap.size]? = some (.cells #[.slice none 0 0] 24) := by rw [hb3.block _ (by omega)]; exact HL0.out
  have he : w3.heap[w.heap.size + 1]? = some (.cells #[.nilIface] 34) := by rw [hb3.block _ (by omega)]; exact HE0.out
  have c1 := z_ (i := 0) hl rfl
  have c2 := z_ (i := 0) he rfl
  have f1 := zb hl 0
  have f2 := zb he 0
  have HB3 : Hid (Below W0.heap.size W0 w3) := hb3
  have HLc : Hid (w3.heap[w.heap.size]? = some (.cells #[.slice none 0 0] 24)) := hl
  have HEc : Hid (w3.heap[w.heap.size + 1]? = some (.cells #[.nilIface] 34)) := he
  have HO : Hid (w3.ownsRow W2.heap.size 86 4 (.slice qv n cv) n cs) := hrow
  have HX : Hid (FnAt (Fr W2.heap.size) w3 t cs) := hx
  have HRR : Hid (qE (l.length + 1) 0 l = .ok (t, l')) := hr
  clear hr hrow hx hg hb3 hl he hz hA
  go_wp2
  refine leaves_cons (f := 31) (args := #[.pointer (some ⟨w.heap.size, 0, none⟩), .pointer (some ⟨w.heap.size + 1, 0, none⟩)]) (by simp) (by simp [go_sem]) ?_
  refine (catch_idle ⟨w.heap.size, 0, none⟩ ⟨w.heap.size + 1, 0, none⟩ _).mono ?_
  rintro e u' w4 ⟨rfl, rfl, rfl⟩
  have e2 : (w3.setCell ⟨w.heap.size, 0, none⟩ (.slice qv n cv)).heap[w.heap.size + 1]? = some (.cells #[.nilIface] 34) := by
   rw [heap_setCell_other _ _ _ _ (by show w.heap.size + 1 ≠ w.heap.size; omega)]
   exact HEc.out
  have l3 : ((w3.setCell ⟨w.heap.size, 0, none⟩ (.slice qv n cv)).setCell ⟨w.heap.size + 1, 0, none⟩ .nilIface).heap[w.heap.size]? = some (.cells #[.slice qv n cv] 24) := by
   rw [heap_setCell_other _ _ _ _ (by show w.heap.size ≠ w.heap.size + 1; omega)]
   exact heap_setCell_same _ _ _ _ _ _ HLc.out
  have e3 : ((w3.setCell ⟨w.heap.size, 0, none⟩ (.slice qv n cv)).setCell ⟨w.heap.size + 1, 0, none⟩ .nilIface).heap[w.heap.size + 1]? = some (.cells #[.nilIface] 34) := heap_setCell_same _ _ _ _ _ _ e2
  refine ⟨_, res8 _ _ w.heap.size (w.heap.size + 1) _ _ rfl rfl (z_ (i := 0) l3 rfl) (z_ (i := 0) e3 rfl), HG0.out _ _ ?_⟩
  have hp : qh sl = .ok t := by unfold qh; rw [HR.out]; show (match qE (l.length + 1) 0 l with | .error e => _ | .ok (t, _) => _) = _; rw [HRR.out]
  rw [hp]
  have hz := HZ0.out
  have hw2 := HB2.out.size
  have hK : Keeps (Fr W2.heap.size) w3 ((w3.setCell ⟨w.heap.size, 0, none⟩ (.slice qv n cv)).setCell ⟨w.heap.size + 1, 0, none⟩ .nilIface) := (Keeps.set (by omega)).trans (Keeps.set (by omega))
  refine ⟨⟨_, n, cs, rfl, own_mono (hK.row (by decide) HO.out (fun i hi => (HO.out.lt i hi).1)) (by omega), FnAt.old (FnAt.kept hK _ _ HX.out) (by omega)⟩, ?_⟩
  exact ((HB0.out.trans (HB3.out.mono (by omega))).setCell (p := ⟨w.heap.size, 0, none⟩) (Nat.le_refl _) _).setCell (p := ⟨w.heap.size + 1, 0, none⟩) (by show w.heap.size ≤ w.heap.size + 1; omega) _
def holdsV : Tr → Nat
 | .agg [.lit (.int _ c), _, _, _, .lit (.string op), _, _, _] => if c = 3 then zE op else if c = 4 then 7 else 8
 | _ => 8
def hold : Tr → Nat → By → By
 | .nil, _, s => s
 | t, k, s => if k ≤ holdsV t then s else [40] ++ s ++ [41]
def sep : Tr → By
 | .slice [] [] => []
 | _ => [44, 32]
def wrT : Tr → By
 | .agg [.lit (.int _ c), .lit (.int _ _), .lit (.int _ n), .lit (.string nm), .lit (.string op), l, r, g] =>
  if c = 1 then Lib.itoa n
  else if c = 2 then nm
  else if c = 3 then hold l (zE op) (wrT l) ++ ([32] ++ op ++ [32]) ++ hold r (zE op + 1) (wrT r)
  else if c = 4 then op ++ hold l 7 (wrT l)
  else if c = 5 then (nm ++ [40]) ++ wrT g ++ [41]
  else if c = 6 then ([110, 101, 119] ++ [40]) ++ wrT l ++ [41]
  else if c = 7 then ([108, 101, 110] ++ [40]) ++ wrT l ++ [41]
  else if c = 9 then ([105, 110, 112, 117, 116] ++ [40]) ++ [41]
  else if c = 8 then hold l 8 (wrT l) ++ ([91] ++ wrT r ++ [93])
  else []
 | .slice [x] [g] => wrT x ++ sep g ++ wrT g
 | _ => []
abbrev Pw (w : World) : Prop := Lib.TabIs Tryz.prog w "internal/strconv.uint64pow10" .u64 Lib.pow10Tab
structure EnvW (B : Nat) (w : World) : Prop where
 env : Env w
 pow : Pw w
 far : 14 ≤ B
 le : B ≤ w.heap.size
theorem gPow : Tryz.prog.globalNamed "internal/strconv.uint64pow10" = some 7 := by kernel_rfl
theorem nd_open {S : Nat → Prop} {w : World} {c a n : Int} {nm op : By} {l r g : Tr} {v : Value} (h : ExAt S w (nd c a n nm op l r g) v) :
  ∃ (q : Nat) (vl vr vg : Value) (ys : List Value), S q ∧ v = .pointer (some ⟨q, 0, none⟩) ∧ w.heap[q]? = some (.cells #[.int .i64 c, .int .i64 a, .int .i64 n, str nm, str op, vl, vr, vg] 252) ∧ ExAt S w l vl ∧ ExAt S w r vr ∧ w.ownsRow 0 145 1 vg ys.length ys ∧ (∀ i, vg.ownBlock = some i → S i) ∧ ExAt S w g (.tuple ys.toArray) := by
 rw [ExAt] at h
 exact h
def joinT : List Tr → By
 | [] => []
 | [x] => wrT x
 | x :: y :: xs => wrT x ++ [44, 32] ++ joinT (y :: xs)
theorem join_chain : ∀ xs : List Tr, wrT (chain xs) = joinT xs
 | [] => by simp [chain, wrT, joinT]
 | [x] => by simp [chain, wrT, joinT, sep]
 | x :: y :: xs => by
  have ih := join_chain (y :: xs)
  have e : wrT (chain (x :: y :: xs)) = wrT x ++ sep (chain (y :: xs)) ++ wrT (chain (y :: xs)) := by
   show wrT (.slice [x] [chain (y :: xs)]) = _
   rw [wrT]
  rw [e, ih]
  rfl
theorem chain_open {S : Nat → Prop} {w : World} : ∀ (ys : List Value) (g : Tr), ExAt S w g (.tuple ys.toArray) → ∃ xs, g = chain xs ∧ xs.length = ys.length ∧ ∀ (i : Nat) (x : Tr) (y : Value), xs[i]? = some x → ys[i]? = some y → ExAt S w x y
 | [], g, h => by
  unfold ExAt at h
  split at h
  ·obtain ⟨_, _, _, _, _, _, e, _⟩ := h; cases e
  ·obtain ⟨y, ys, e, _⟩ := h
   injection e with e
   have := congrArg Array.toList e
   simp at this
  ·exact ⟨[], rfl, rfl, fun i x y h => by simp at h⟩
  ·cases h
  ·exact h.elim
 | y :: ys, g, h => by
  unfold ExAt at h
  split at h
  ·obtain ⟨_, _, _, _, _, _, e, _⟩ := h; cases e
  ·rename_i x g'
   obtain ⟨y', ys', e, hx, hg⟩ := h
   injection e with e
   have e2 := congrArg Array.toList e
   simp at e2
   obtain ⟨rfl, rfl⟩ := e2
   obtain ⟨xs, rfl, hl, hi⟩ := chain_open ys _ hg
   refine ⟨x :: xs, rfl, by simp [hl], fun i a b ha hb => ?_⟩
   cases i with
   | zero =>
    simp at ha hb
    subst ha; subst hb
    exact hx
   | succ i => exact hi i a b (by simpa using ha) (by simpa using hb)
  ·injection h with h
   have := congrArg Array.toList h
   simp at this
  ·cases h
  ·exact h.elim
theorem chain_inj : ∀ {a b : List Tr}, chain a = chain b → a = b
 | [], [], _ => rfl
 | [], _ :: _, h => by simp [chain] at h
 | _ :: _, [], h => by simp [chain] at h
 | x :: a, y :: b, h => by
  simp only [chain] at h
  injection h with h1 h2
  injection h1 with h1 _
  injection h2 with h2 _
  rw [h1, chain_inj h2]
def zF : Tr → Prop
 | .agg [.lit (.int .i64 c), .lit (.int .i64 _), .lit (.int .i64 n), .lit (.string _), .lit (.string _), l, r, g] =>
  1 ≤ c ∧ c ≤ 9 ∧ -9223372036854775808 ≤ n ∧ n ≤ 9223372036854775807 ∧ (l = .nil ∨ IsNd l) ∧ (r = .nil ∨ IsNd r) ∧ zF l ∧ zF r ∧ zF g ∧ ∃ xs, g = chain xs ∧ xs.length ≤ 1000000
 | .slice [x] [g] => IsNd x ∧ zF x ∧ zF g
 | .slice [] [] => True
 | .nil => True
 | _ => False
theorem near_short {m : By} (h : 1 ≤ zE m) : m.length ≤ 2 := by
 rcases near_at pairsL m with ⟨J, h1, h2, _, _⟩ | ⟨_, h2⟩
 ·have h6 : ∀ J, J < 13 → (pairsL.getD J ([], 0)).1.length ≤ 2 := by decide
  rw [← h2]
  exact h6 J h1
 ·have : zE m = 0 := h2
  omega
theorem good_nd {c a n : Int} {nm op : By} {l r g : Tr} {xs : List Tr} (c1 : 1 ≤ c) (c9 : c ≤ 9) (n0 : -9223372036854775808 ≤ n) (n1 : n ≤ 9223372036854775807) (hl : l = .nil ∨ IsNd l) (hr : r = .nil ∨ IsNd r) (gl : zF l) (gr : zF r) (gg : zF g) (hg : g = chain xs) (hx : xs.length ≤ 1000000) : zF (nd c a n nm op l r g) := by
 rw [zF]
 exact ⟨c1, c9, n0, n1, hl, hr, gl, gr, gg, xs, hg, hx⟩
theorem zB : zF .nil := by rw [zF]; trivial
theorem good_ce : zF ce := by rw [zF]; trivial
theorem hold_le (t : Tr) (k : Nat) (s : By) : (hold t k s).length ≤ s.length + 2 := by
 unfold hold
 split
 ·omega
 ·split
  ·omega
  ·simp
theorem qO : ce = chain [] := rfl
theorem join_cons (x : Tr) (xs : List Tr) : (joinT (x :: xs)).length ≤ (wrT x).length + 2 + (joinT xs).length := by
 cases xs with
 | nil => simp [joinT]
 | cons y xs => simp [joinT]; omega
def ExG (g : Nat) (x : Tr) (l : List Tok) (t : Tr) (l' : List Tok) : Prop :=
 if g = 7 then ∃ xs, t = chain xs ∧ zF t ∧ (joinT xs).length + 2 + 30 * l'.length ≤ 30 * l.length ∧ xs.length + l'.length ≤ l.length
 else zF t ∧ (wrT t).length + 2 + 30 * l'.length ≤ 30 * l.length + (if g = 1 ∨ g = 3 then (wrT x).length + 2 else 0)
theorem qT {g : Nat} {x t : Tr} {l l' : List Tok} (h7 : g ≠ 7) (h13 : ¬ (g = 1 ∨ g = 3)) (h : ExG g x l t l') : zF t ∧ (wrT t).length + 2 + 30 * l'.length ≤ 30 * l.length := by
 unfold ExG at h
 rw [if_neg h7, if_neg h13] at h
 exact h
theorem exG_lp {g : Nat} {x t : Tr} {l l' : List Tok} (h13 : g = 1 ∨ g = 3) (h : ExG g x l t l') : zF t ∧ (wrT t).length + 2 + 30 * l'.length ≤ 30 * l.length + ((wrT x).length + 2) := by
 unfold ExG at h
 rw [if_neg (by omega), if_pos h13] at h
 exact h
theorem zI : ∀ (f g lv d : Nat) (x : Tr) (p : Nat) (l : List Tok) (t : Tr) (l' : List Tok), (g ≤ 1 → 1 ≤ lv) → (g = 1 ∨ g = 3 → zF x ∧ IsNd x) → Ends l → l.length ≤ 1000000 → exV f g lv d x p l = .ok (t, l') → ExG g x l t l'
 | 0, _, _, _, _, _, _, _, _, _, _, _, _, h => by simp [exV] at h
 | f + 1, 0, lv, d, x, p, l, t, l', hv, hx, he, h6, h => by
  rw [exV] at h
  unfold ExG
  rw [if_neg (by omega), if_neg (by omega)]
  split at h
  ·exact qT (by omega) (by omega) (zI f 2 0 d .nil 0 l t l' (fun h => by omega) (fun h => by omega) he h6 h)
  ·obtain ⟨y, l1, h1, h2⟩ := za h
   have e1 := zo f 0 (lv + 1) d .nil 0 l y l1 (fun _ => by omega) he h1
   have g1 := qT (by omega) (by omega) (zI f 0 (lv + 1) d .nil 0 l y l1 (fun _ => by omega) (fun h => by omega) he h6 h1)
   have n1 := zq f 0 (lv + 1) d .nil 0 l y l1 (by omega) (by omega) h1
   have g2 := exG_lp (.inl rfl) (zI f 1 lv d y _ l1 t l' (fun _ => hv (by omega)) (fun _ => ⟨g1.1, n1⟩) e1.1 (by have := e1.2.1; omega) h2)
   exact ⟨g2.1, by have := g1.2; have := g2.2; omega⟩
 | f + 1, 1, lv, d, x, p, l, t, l', hv, hx, he, h6, h => by
  rw [exV] at h
  unfold ExG
  rw [if_neg (by omega), if_pos (.inl rfl)]
  obtain ⟨gx, nx⟩ := hx (.inl rfl)
  split at h
  ·rename_i hn
   obtain ⟨y, l1, h1, h2⟩ := za h
   have hlv := hv (by omega)
   have hk : (hd l).t ≠ [] := fun e => by
    rw [e] at hn
    have h0 : zE [] = 0 := by decide
    omega
   obtain ⟨t1, t2, t3, t4⟩ := he.tail hk
   have e1 := zo f 0 (lv + 1) d .nil 0 l.tail y l1 (fun _ => by omega) t1 h1
   have g1 := qT (by omega) (by omega) (zI f 0 (lv + 1) d .nil 0 l.tail y l1 (fun _ => by omega) (fun h => by omega) t1 (by omega) h1)
   have n1 := zq f 0 (lv + 1) d .nil 0 l.tail y l1 (by omega) (by omega) h1
   have gn : zF (nd 3 p 0 [] (hd l).t x y ce) := good_nd (by omega) (by omega) (by omega) (by omega) (.inr nx) (.inr n1) gx g1.1 good_ce qO (by simp)
   have g2 := exG_lp (.inl rfl) (zI f 1 lv d _ _ l1 t l' (fun _ => hlv) (fun _ => ⟨gn, isNd _ _ _ _ _ _ _ _⟩) e1.1 (by have := e1.2.1; omega) h2)
   refine ⟨g2.1, ?_⟩
   have hw : wrT (nd 3 p 0 [] (hd l).t x y ce) = hold x (zE (hd l).t) (wrT x) ++ ([32] ++ (hd l).t ++ [32]) ++ hold y (zE (hd l).t + 1) (wrT y) := by rw [wrT]; simp
   have a1 := hold_le x (zE (hd l).t) (wrT x)
   have a2 := hold_le y (zE (hd l).t + 1) (wrT y)
   have a3 := near_short (m := (hd l).t) (by omega)
   have a4 := g1.2
   have a5 := g2.2
   rw [hw] at a5
   simp only [List.length_append, List.length_cons, List.length_nil] at a5
   omega
  ·obtain ⟨rfl, rfl⟩ := zj h
   exact ⟨gx, by omega⟩
 | f + 1, 2, lv, d, x, p, l, t, l', hv, hx, he, h6, h => by
  rw [exV] at h
  unfold ExG
  rw [if_neg (by omega), if_neg (by omega)]
  obtain ⟨_, _, hb, h⟩ := za h
  split at h
  ·rename_i hn
   obtain ⟨y, l1, h1, h2⟩ := za h
   have hk : (hd l).t ≠ [] := by rcases hn with hn | hn <;> rw [hn] <;> simp
   have hk1 : (hd l).t.length = 1 := by rcases hn with hn | hn <;> rw [hn] <;> rfl
   obtain ⟨t1, t2, t3, t4⟩ := he.tail hk
   have g1 := qT (by omega) (by omega) (zI f 2 0 (d + 1) .nil 0 l.tail y l1 (fun h => by omega) (fun h => by omega) t1 (by omega) h1)
   have n1 := zq f 2 0 (d + 1) .nil 0 l.tail y l1 (by omega) (by omega) h1
   obtain ⟨rfl, rfl⟩ := zj h2
   refine ⟨good_nd (by omega) (by omega) (by omega) (by omega) (.inr n1) (.inl rfl) g1.1 zB good_ce qO (by simp), ?_⟩
   have hw : wrT (nd 4 (hd l).p 0 [] (hd l).t y .nil ce) = (hd l).t ++ hold y 7 (wrT y) := by rw [wrT]; simp
   have a1 := hold_le y 7 (wrT y)
   rw [hw]
   simp only [List.length_append]
   have := g1.2
   omega
  ·obtain ⟨y, l1, h1, h2⟩ := za h
   have e1 := zo f 4 0 d .nil 0 l y l1 (fun h => by omega) he h1
   have g1 := qT (by omega) (by omega) (zI f 4 0 d .nil 0 l y l1 (fun h => by omega) (fun h => by omega) he h6 h1)
   have n1 := zq f 4 0 d .nil 0 l y l1 (by omega) (by omega) h1
   have g2 := exG_lp (.inr rfl) (zI f 3 0 d y _ l1 t l' (fun h => by omega) (fun _ => ⟨g1.1, n1⟩) e1.1 (by have := e1.2.1; omega) h2)
   exact ⟨g2.1, by have := g1.2; have := g2.2; omega⟩
 | f + 1, 3, lv, d, x, p, l, t, l', hv, hx, he, h6, h => by
  rw [exV] at h
  unfold ExG
  rw [if_neg (by omega), if_pos (.inr rfl)]
  obtain ⟨gx, nx⟩ := hx (.inr rfl)
  split at h
  ·rename_i hn
   obtain ⟨y, l1, h1, h2⟩ := za h
   obtain ⟨t1, t2, t3, t4⟩ := he.tail (by rw [hn]; simp)
   have e1 := zo f 6 0 d .nil 0 l.tail y l1 (fun h => by omega) t1 h1
   have g1 := qT (by omega) (by omega) (zI f 6 0 d .nil 0 l.tail y l1 (fun h => by omega) (fun h => by omega) t1 (by omega) h1)
   have n1 := zq f 6 0 d .nil 0 l.tail y l1 (by omega) (by omega) h1
   have gn : zF (nd 8 p 0 [] [] x y ce) := good_nd (by omega) (by omega) (by omega) (by omega) (.inr nx) (.inr n1) gx g1.1 good_ce qO (by simp)
   have g2 := exG_lp (.inr rfl) (zI f 3 0 d _ _ l1 t l' (fun h => by omega) (fun _ => ⟨gn, isNd _ _ _ _ _ _ _ _⟩) e1.1 (by have := e1.2.1; omega) h2)
   refine ⟨g2.1, ?_⟩
   have hw : wrT (nd 8 p 0 [] [] x y ce) = hold x 8 (wrT x) ++ ([91] ++ wrT y ++ [93]) := by rw [wrT]; simp
   have a1 := hold_le x 8 (wrT x)
   have a4 := g1.2
   have a5 := g2.2
   rw [hw] at a5
   simp only [List.length_append, List.length_cons, List.length_nil] at a5
   omega
  ·obtain ⟨rfl, rfl⟩ := zj h
   exact ⟨gx, by omega⟩
 | f + 1, 4, lv, d, x, p, l, t, l', hv, hx, he, h6, h => by
  rw [exV] at h
  unfold ExG
  rw [if_neg (by omega), if_neg (by omega)]
  split at h
  ·rename_i hk
   obtain ⟨v, l1, h1, h2⟩ := za h
   obtain ⟨hp, rfl⟩ := num_ok h1
   obtain ⟨t1, t2, t3, t4⟩ := he.tail (he.kind (by omega))
   have hb := Lib.parseIntB_bounds hp
   have e63 : ((2 ^ (64 - 1) : Nat) : Int) = 9223372036854775808 := by decide
   rw [e63] at hb
   obtain ⟨rfl, rfl⟩ := zj h2
   refine ⟨good_nd (by omega) (by omega) (by omega) (by omega) (.inl rfl) (.inl rfl) zB zB good_ce qO (by simp), ?_⟩
   have hw : wrT (nd 1 (hd l).p v [] [] .nil .nil ce) = Lib.itoa v := by rw [wrT]; simp
   have := Lib.itoa_length_le v (by omega) (by omega)
   rw [hw]
   omega
  split at h
  ·rename_i hk2 hk
   obtain ⟨nm, l1, h1, h2⟩ := za h
   obtain ⟨_, _, hn12, rfl⟩ := name_ok h1
   obtain ⟨t1, t2, t3, t4⟩ := he.tail (he.kind (by omega))
   split at h2
   ·rename_i h40
    obtain ⟨s1, s2, s3, s4⟩ := t1.tail (by rw [h40]; simp)
    split at h2
    ·rename_i h41
     obtain ⟨r1, r2, r3, r4⟩ := s1.tail (by rw [h41]; simp)
     obtain ⟨rfl, rfl⟩ := zj h2
     refine ⟨good_nd (by omega) (by omega) (by omega) (by omega) (.inl rfl) (.inl rfl) zB zB good_ce qO (by simp), ?_⟩
     have hw : wrT (nd 5 (hd l).p 0 nm [] .nil .nil ce) = (nm ++ [40]) ++ wrT ce ++ [41] := by rw [wrT]; simp
     have hc : wrT ce = [] := by rw [qO, join_chain]; rfl
     rw [hw, hc]
     simp only [List.length_append, List.length_cons, List.length_nil]
     omega
    ·obtain ⟨gg, l2, h3, h4⟩ := za h2
     have q := zI f 7 0 d ce 0 l.tail.tail gg l2 (fun h => by omega) (fun h => by omega) s1 (by omega) h3
     unfold ExG at q
     rw [if_pos rfl] at q
     obtain ⟨xs, hxs, hgg, hlen, hcnt⟩ := q
     obtain ⟨rfl, rfl⟩ := zj h4
     refine ⟨good_nd (by omega) (by omega) (by omega) (by omega) (.inl rfl) (.inl rfl) zB zB hgg hxs (by omega), ?_⟩
     have hw : wrT (nd 5 (hd l).p 0 nm [] .nil .nil gg) = (nm ++ [40]) ++ wrT gg ++ [41] := by rw [wrT]; simp
     have hc : wrT gg = joinT xs := by rw [hxs, join_chain]
     rw [hw, hc]
     simp only [List.length_append, List.length_cons, List.length_nil]
     omega
   ·obtain ⟨rfl, rfl⟩ := zj h2
    refine ⟨good_nd (by omega) (by omega) (by omega) (by omega) (.inl rfl) (.inl rfl) zB zB good_ce qO (by simp), ?_⟩
    have hw : wrT (nd 2 (hd l).p 0 nm [] .nil .nil ce) = nm := by rw [wrT]; simp
    rw [hw]
    omega
  split at h
  ·rename_i hn
   obtain ⟨y, l1, h1, h2⟩ := za h
   obtain ⟨t1, t2, t3, t4⟩ := he.tail (by rw [hn]; simp)
   have g1 := qT (by omega) (by omega) (zI f 5 0 d .nil 0 l.tail y l1 (fun h => by omega) (fun h => by omega) t1 (by omega) h1)
   have n1 := zq f 5 0 d .nil 0 l.tail y l1 (by omega) (by omega) h1
   obtain ⟨rfl, rfl⟩ := zj h2
   refine ⟨good_nd (by omega) (by omega) (by omega) (by omega) (.inr n1) (.inl rfl) g1.1 zB good_ce qO (by simp), ?_⟩
   have hw : wrT (nd 6 (hd l).p 0 [] [] y .nil ce) = ([110, 101, 119] ++ [40]) ++ wrT y ++ [41] := by rw [wrT]; simp
   rw [hw]
   simp only [List.length_append, List.length_cons, List.length_nil]
   have := g1.2
   omega
  split at h
  ·rename_i hn
   obtain ⟨y, l1, h1, h2⟩ := za h
   obtain ⟨t1, t2, t3, t4⟩ := he.tail (by rw [hn]; simp)
   have g1 := qT (by omega) (by omega) (zI f 5 0 d .nil 0 l.tail y l1 (fun h => by omega) (fun h => by omega) t1 (by omega) h1)
   have n1 := zq f 5 0 d .nil 0 l.tail y l1 (by omega) (by omega) h1
   obtain ⟨rfl, rfl⟩ := zj h2
   refine ⟨good_nd (by omega) (by omega) (by omega) (by omega) (.inr n1) (.inl rfl) g1.1 zB good_ce qO (by simp), ?_⟩
   have hw : wrT (nd 7 (hd l).p 0 [] [] y .nil ce) = ([108, 101, 110] ++ [40]) ++ wrT y ++ [41] := by rw [wrT]; simp
   rw [hw]
   simp only [List.length_append, List.length_cons, List.length_nil]
   have := g1.2
   omega
  split at h
  ·rename_i hn
   obtain ⟨t1, t2, t3, t4⟩ := he.tail (by rw [hn]; simp)
   obtain ⟨_, l1, h1, h⟩ := za h
   obtain ⟨e1, s1⟩ := zm h1 (by decide) t1
   obtain ⟨_, l2, h2, h⟩ := za h
   obtain ⟨e2, s2⟩ := zm h2 (by decide) e1
   obtain ⟨rfl, rfl⟩ := zj h
   refine ⟨good_nd (by omega) (by omega) (by omega) (by omega) (.inl rfl) (.inl rfl) zB zB good_ce qO (by simp), ?_⟩
   have hw : wrT (nd 9 (hd l).p 0 [] [] .nil .nil ce) = ([105, 110, 112, 117, 116] ++ [40]) ++ [41] := by rw [wrT]; simp
   rw [hw]
   simp only [List.length_append, List.length_cons, List.length_nil]
   omega
  ·exact qT (by omega) (by omega) (zI f 5 0 d .nil 0 l t l' (fun h => by omega) (fun h => by omega) he h6 h)
 | f + 1, 5, lv, d, x, p, l, t, l', hv, hx, he, h6, h => by
  rw [exV] at h
  unfold ExG
  rw [if_neg (by omega), if_neg (by omega)]
  obtain ⟨_, l1, h1, h⟩ := za h
  obtain ⟨e1, s1⟩ := zm h1 (by decide) he
  obtain ⟨y, l2, h2, h⟩ := za h
  have e2 := zo f 0 1 (d + 1) .nil 0 l1 y l2 (fun _ => by omega) e1 h2
  have g1 := qT (by omega) (by omega) (zI f 0 1 (d + 1) .nil 0 l1 y l2 (fun h => by omega) (fun h => by omega) e1 (by omega) h2)
  obtain ⟨_, l3, h3, h⟩ := za h
  obtain ⟨e3, s3⟩ := zm h3 (by decide) e2.1
  obtain ⟨rfl, rfl⟩ := zj h
  exact ⟨g1.1, by have := g1.2; omega⟩
 | f + 1, 6, lv, d, x, p, l, t, l', hv, hx, he, h6, h => by
  rw [exV] at h
  unfold ExG
  rw [if_neg (by omega), if_neg (by omega)]
  obtain ⟨y, l2, h2, h⟩ := za h
  have e2 := zo f 0 1 (d + 1) .nil 0 l y l2 (fun _ => by omega) he h2
  have g1 := qT (by omega) (by omega) (zI f 0 1 (d + 1) .nil 0 l y l2 (fun h => by omega) (fun h => by omega) he h6 h2)
  obtain ⟨_, l3, h3, h⟩ := za h
  obtain ⟨e3, s3⟩ := zm h3 (by decide) e2.1
  obtain ⟨rfl, rfl⟩ := zj h
  exact ⟨g1.1, by have := g1.2; omega⟩
 | f + 1, 7, lv, d, x, p, l, t, l', hv, hx, he, h6, h => by
  rw [exV] at h
  unfold ExG
  rw [if_pos rfl]
  obtain ⟨y, l2, h2, h⟩ := za h
  have e2 := zo f 0 1 (d + 1) .nil 0 l y l2 (fun _ => by omega) he h2
  have g1 := qT (by omega) (by omega) (zI f 0 1 (d + 1) .nil 0 l y l2 (fun h => by omega) (fun h => by omega) he h6 h2)
  have n1 := zq f 0 1 (d + 1) .nil 0 l y l2 (by omega) (by omega) h2
  split at h
  ·rename_i hn
   obtain ⟨s1, s2, s3, s4⟩ := e2.1.tail (by rw [hn]; simp)
   obtain ⟨gg, l4, h5, h⟩ := za h
   have q := zI f 7 0 d ce 0 l2.tail gg l4 (fun h => by omega) (fun h => by omega) s1 (by have := e2.2.1; omega) h5
   unfold ExG at q
   rw [if_pos rfl] at q
   obtain ⟨xs, hxs, hgg, hlen, hcnt⟩ := q
   obtain ⟨rfl, rfl⟩ := zj h
   refine ⟨y :: xs, by rw [hxs]; rfl, by rw [zF]; exact ⟨n1, g1.1, hgg⟩, ?_, ?_⟩
   ·have := join_cons y xs
    have := g1.2
    omega
   ·have := e2.2.1
    simp only [List.length_cons]
    omega
  ·obtain ⟨_, l3, h3, h⟩ := za h
   obtain ⟨e3, s3⟩ := zm h3 (by decide) e2.1
   obtain ⟨rfl, rfl⟩ := zj h
   refine ⟨[y], rfl, by rw [zF]; exact ⟨n1, g1.1, good_ce⟩, ?_, ?_⟩
   ·have := g1.2
    simp only [joinT]
    omega
   ·have := e2.2.1
    simp
    omega
 | f + 1, g + 8, lv, d, x, p, l, t, l', hv, hx, he, h6, h => by rw [exV] at h; cases h
def isCe : Tr → Bool
 | .slice [] [] => true
 | _ => false
def stT (left : By) : Tr → By
 | .slice [.agg [.lit (.int _ c), .lit (.int _ _), .lit (.string nm), ix, v, th, el]] [g] =>
  (left ++ [32, 32]) ++
  (if c = 4 then ([105, 102] ++ [32, 40]) ++ wrT v ++ [41] ++ ([32, 123, 10] ++ stT (left ++ [32, 32]) th ++ ((left ++ [32, 32]) ++ [125])) ++ (if isCe el then [] else [32, 101, 108, 115, 101] ++ ([32, 123, 10] ++ stT (left ++ [32, 32]) el ++ ((left ++ [32, 32]) ++ [125])))
   else if c = 5 then ([119, 104, 105, 108, 101] ++ [32, 40]) ++ wrT v ++ [41] ++ ([32, 123, 10] ++ stT (left ++ [32, 32]) th ++ ((left ++ [32, 32]) ++ [125]))
   else (if c = 1 then [118, 97, 114, 32] ++ nm ++ [32, 61, 32] else if c = 2 then nm ++ [32, 61, 32] else if c = 3 then nm ++ ([91] ++ wrT ix ++ [93]) ++ [32, 61, 32] else if c = 6 then [114, 101, 116, 117, 114, 110, 32] else if c = 7 then [112, 114, 105, 110, 116, 32] else []) ++ wrT v ++ [59])
  ++ [10] ++ stT left g
 | _ => []
def blT (left : By) (g : Tr) : By := [32, 123, 10] ++ stT left g ++ (left ++ [125])
def smT (lf : By) : Tr → By
 | .agg [.lit (.int _ c), .lit (.int _ _), .lit (.string nm), ix, v, th, el] =>
  if c = 4 then ([105, 102] ++ [32, 40]) ++ wrT v ++ [41] ++ blT lf th ++ (if isCe el then [] else [32, 101, 108, 115, 101] ++ blT lf el)
  else if c = 5 then ([119, 104, 105, 108, 101] ++ [32, 40]) ++ wrT v ++ [41] ++ blT lf th
  else (if c = 1 then [118, 97, 114, 32] ++ nm ++ [32, 61, 32] else if c = 2 then nm ++ [32, 61, 32] else if c = 3 then nm ++ ([91] ++ wrT ix ++ [93]) ++ [32, 61, 32] else if c = 6 then [114, 101, 116, 117, 114, 110, 32] else if c = 7 then [112, 114, 105, 110, 116, 32] else []) ++ wrT v ++ [59]
 | _ => []
theorem stT_cons (left : By) (c a : Int) (nm : By) (ix v th el g : Tr) : stT left (.slice [st c a nm ix v th el] [g]) = (left ++ [32, 32]) ++ smT (left ++ [32, 32]) (st c a nm ix v th el) ++ [10] ++ stT left g := by
 rw [stT]
 rfl
theorem st_open {S : Nat → Prop} {w : World} {c a : Int} {nm : By} {ix v th el g : Tr} {cs : List Value} (h : StAt S w (.slice [st c a nm ix v th el] [g]) cs) :
  ∃ (vi vv : Option Addr) (vt ve : Value) (nt ne : Nat) (ts es rest : List Value), cs = [.int .i64 c, .int .i64 a, str nm, .pointer vi, .pointer vv, vt, ve] ++ rest ∧ ExAt S w ix (.pointer vi) ∧ ExAt S w v (.pointer vv) ∧ RowS S w 147 7 vt nt ts ∧ StAt S w th ts ∧ RowS S w 147 7 ve ne es ∧ StAt S w el es ∧ StAt S w g rest := by
 rw [StAt] at h
 exact h
end Go.Proofs.YtnfhpdbbfejioaaGreatDoor
