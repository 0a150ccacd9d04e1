/- The law's own: sameInts, sameEnd; a list laid anew. The law's code: what is given, raw; steps laid anew. The law's code, walked. The law's code, walked: loops. -/
import Derived.Test.YtjmbjpimabnohaaDoorQL
import Derived.BigQuiet
import Derived.Deep.Upon
import Derived.Deep.AppendLies
import Derived.Deep.RegionLaw
import Derived.Test.YtjmbjpimabnohaaDoorSE
namespace Go.Proofs.YtjmbjpimabnohaaDoor.Mid
set_option linter.unusedVariables false
set_option linter.unusedSimpArgs false
open Go Go.RowKit

theorem bel2 (w : World) (A B : Obj) : Below w.heap.size w ((w.alloc A).alloc B) := ((Below.refl _ _).alloc (Nat.le_refl _) _).alloc (by simp) _
theorem InW.of_own {w : World} {B : Nat} {v : Value} {l : List Int} (h : w.ownsRow B 2 1 v l.length (ints l)) : InW w v l := by
  rcases h.2 with ⟨h1, h2⟩ | ⟨g, cap, cur, hv, _, hg, hc, _, _, ht⟩
  · exact ⟨none, 0, by rw [h1, h2], .inl (List.length_eq_zero_iff.1 h2)⟩
  · subst hv
    refine ⟨_, _, rfl, .inr ⟨g, 0, rfl, (Array.getElem?_eq_some_iff.1 hg).1, hc, fun j x hx => ?_⟩⟩
    rw [Nat.zero_add]
    refine cell_at hg ?_
    have e : (ints l)[j]? = some (.int .i64 x) := by rw [List.getElem?_map, hx]; rfl
    rw [← ht, List.getElem?_take] at e
    split at e
    · simpa using e
    · cases e
set_option maxRecDepth 100000 in
set_option maxHeartbeats 1000000 in
/-- Equal of two that are the same only draws. -/
theorem sameInts_q (w : World) (v1 v2 : Value) (l : List Int) (h1 : InW w v1 l) (h2 : InW w v2 l) (hl : l.length ≤ 9223372036854775807) :
    Calls Tryd.prog 27 #[v1, v2] w fun e w' => e = .returned (.bool true) ∧ ∃ m, w' = w.drewN m := by
  obtain ⟨p, c, rfl, h1⟩ := h1
  obtain ⟨q, d, rfl, h2⟩ := h2
  obtain ⟨n, hn⟩ : ∃ n, n = l.length := ⟨_, rfl⟩
  have H1 : Hid (∀ j, j < n → ∃ g o, p = some ⟨g, o, none⟩ ∧ g < w.heap.size ∧ ∀ j, j < n → w.cell? ⟨g, o + j, none⟩ = some (.int .i64 (l.getD j 0))) := fun j hj => by
    rcases h1 with rfl | ⟨g, o, e, hg, _, hx⟩
    · simp at hn; omega
    · exact ⟨g, o, e, hg, fun j hj => hx j _ (by rw [List.getElem?_eq_getElem (by omega)]; simp [List.getD_eq_getElem?_getD, List.getElem?_eq_getElem (show j < l.length by omega)])⟩
  have H2 : Hid (∀ j, j < n → ∃ g o, q = some ⟨g, o, none⟩ ∧ g < w.heap.size ∧ ∀ j, j < n → w.cell? ⟨g, o + j, none⟩ = some (.int .i64 (l.getD j 0))) := fun j hj => by
    rcases h2 with rfl | ⟨g, o, e, hg, _, hx⟩
    · simp at hn; omega
    · exact ⟨g, o, e, hg, fun j hj => hx j _ (by rw [List.getElem?_eq_getElem (by omega)]; simp [List.getD_eq_getElem?_getD, List.getElem?_eq_getElem (show j < l.length by omega)])⟩
  have hn6 : n ≤ 9223372036854775807 := by omega
  rw [← hn]
  clear h1 h2 hn hl
  go_enter Tryd.func27, Tryd.ntmps27
  go_wp2
  go_loopw [5] (fun i wr => ∃ j : Nat, j ≤ n ∧ i = .int .i64 j ∧ Hid (∃ m, wr = w.drewN m)) (fun i _ => n - (intOf i).toNat)
  case atStart => exact ⟨0, Nat.zero_le _, rfl, 0, rfl⟩
  case round =>
    obtain ⟨j, hj, rfl, hb⟩ := hrel
    by_cases hlt : j < n
    · obtain ⟨g, o, rfl, hg, hc⟩ := H1.out j hlt
      obtain ⟨g', o', rfl, hg', hc'⟩ := H2.out j hlt
      have k1 : wr.cell? ⟨g, o + j, none⟩ = some (.int .i64 (l.getD j 0)) := by obtain ⟨m, rfl⟩ := hb.out; exact hc j hlt
      have k2 : wr.cell? ⟨g', o' + j, none⟩ = some (.int .i64 (l.getD j 0)) := by obtain ⟨m, rfl⟩ := hb.out; exact hc' j hlt
      have hb2 : Hid (∃ m, wr.drew = w.drewN m) := by obtain ⟨m, rfl⟩ := hb.out; exact ⟨m + 1, rfl⟩
      generalize l.getD j 0 = x at *
      clear hc hc'
      go_wp2
      go_region
      go_wp2
      exact ⟨⟨j + 1, by omega, by go_num, hb2⟩, by simp [intOf]; omega⟩
    · have e : j = n := by omega
      subst e
      go_wp2
      go_ret
      exact ⟨rfl, hb.out⟩
/-- A list laid anew. -/
theorem app_run (w : World) (qi : Option Addr) (ni ci : Nat) (inp : List Int) (hi : InW w (.slice qi ni ci) inp) (h20 : ni ≤ 20) :
    ∃ p c W', (Builtin.append_ #[23, 23] 23 #[.slice (some ⟨w.heap.size, 0, none⟩) 0 0, .slice qi ni ci]).run Tryd.prog (w.alloc (.cells #[] 2)) = .ok (.slice p ni c) W' ∧ InW W' (.slice p ni c) inp ∧ Below w.heap.size w W' := by
  obtain ⟨i, hi2, hz0, hz1, hz2⟩ := info_parts info2
  obtain ⟨q, c, e, hq⟩ := hi
  injection e with e1 e2 e3
  subst e1 e2 e3
  have hb : Below w.heap.size w (w.alloc (.cells #[] 2)) := al_bel _ _
  have hown : (w.alloc (.cells #[] 2)).ownsRow w.heap.size 2 1 (.slice (some ⟨w.heap.size, 0, none⟩) 0 0) 0 [] := ⟨rfl, .inr ⟨w.heap.size, 0, #[], rfl, Nat.le_refl _, heap_alloc_last _ _, Nat.le_refl _, by unfold maxLen; omega, rfl, rfl⟩⟩
  rcases Nat.eq_zero_or_pos inp.length with h0 | h0
  · have hn : inp = [] := List.eq_nil_of_length_eq_zero h0
    subst hn
    refine ⟨_, _, _, run_append_nothing _ 23 23 23 2 i Tryd.underlying23 hi2 (some ⟨w.heap.size, 0, none⟩) 0 0 (Nat.le_refl _) _ ?_, ⟨_, _, rfl, .inl rfl⟩, hb⟩
    cases qi with
    | none => exact Src.ofNil _ Tryd.underlying23 ci
    | some ad => exact Src.ofSlice _ Tryd.underlying23 ad 0 ci [] (by simp) (fun j u hu => by simp at hu) (fun u hu => by simp at hu)
  · rcases hq with he | ⟨g, o, rfl, hg, hle, hx⟩
    · exact absurd h0 (by rw [he]; simp)
    · have f1 : ∀ (j : Nat) (u : Value), (ints inp)[j]? = some u → (w.alloc (.cells #[] 2)).cell? ((⟨g, o, none⟩ : Addr).add j) = some u := by
        intro j u hu
        rw [List.getElem?_map] at hu
        obtain ⟨x, hx', rfl⟩ := Option.map_eq_some_iff.1 hu
        have e : (⟨g, o, none⟩ : Addr).add j = ⟨g, o + j, none⟩ := by unfold Addr.add; split <;> simp_all
        rw [e, hb.cell (p := ⟨g, o + j, none⟩) hg]
        exact hx j x hx'
      obtain ⟨g', cap, W', hr, h2, h3, h4, h5⟩ := run_append_lies (w.alloc (.cells #[] 2)) 23 23 w.heap.size 2 i _ 1 8 Tryd.underlying23 hi2 hz0 hz1 hz2 rfl (by decide) _ 0 [] hown ⟨g, o, none⟩ inp.length ci (ints inp) (by simp) f1 (fun u hu => by obtain ⟨x, _, rfl⟩ := List.mem_map.1 hu; rfl) h0 (by unfold maxLen; omega) (by omega) (by simp) _ rfl
      rw [Nat.zero_add, List.nil_append] at h2
      rw [Nat.zero_add] at hr
      exact ⟨_, _, W', hr, InW.of_own h2, hb.grown h3 (by simp) (fun k e => by have e' : some w.heap.size = some k := e; injection e' with e'; omega)⟩
/-- An append whose run is known. -/
theorem wpl_run_append {P : Program} (w : World) {ops : Array Oper} {rest : List Oper} {o : Oper} {a : Act} {Q : Exit → Act → World → Prop} (hgd : o.guard = none) (s x : Operand) (t tx : TypeId)
    (ho : o.op = .call { callee := .builtin .append, args := #[s, x], argTypes := #[t, tx] }) {v xv v' : Value} {w' : World} (hv : a.eval s = v) (hx : a.eval x = xv)
    (hrun : (Builtin.append_ #[t, tx] o.type #[v, xv]).run P w = .ok v' w') (hK : wpList P ops Q rest (a.put o.dst v') w') : wpList P ops Q (o :: rest) a w := by
  refine wpList_plain hgd fun K hK' => ?_
  unfold Oper.wp
  simp [execOp, ho, resolve, invoke, builtin, hv, hx, hrun, Result.andThen]
  exact hK' _ _ hK
set_option maxRecDepth 100000 in
set_option maxHeartbeats 1000000 in
/-- Two ends that are the same. -/
theorem sameEnd_any (w : World) (wy cy : Int) (p q : Option Addr) (n c d : Nat) (l : List Int) (h1 : InW w (.slice p n c) l) (h2 : InW w (.slice q n d) l) (hl : l.length ≤ 9223372036854775807) :
    Calls Tryd.prog 11 #[.agg #[.int .i64 wy, .int .i64 cy, .slice p n c], .agg #[.int .i64 wy, .int .i64 cy, .slice q n d]] w fun e w' => e = .returned (.bool true) ∧ Below w.heap.size w w' := by
  have HEq : Hid (∀ W v1 v2, InW W v1 l → InW W v2 l → Calls Tryd.prog 27 #[v1, v2] W fun e w' => e = .returned (.bool true) ∧ ∃ m, w' = W.drewN m) := fun W v1 v2 h1 h2 => sameInts_q W v1 v2 l h1 h2 (by omega)
  have HI : Hid (∀ W, Below w.heap.size w W → InW W (.slice p n c) l ∧ InW W (.slice q n d) l) := fun W hb => ⟨h1.below hb, h2.below hb⟩
  clear h1 h2 hl
  go_enter Tryd.func11, Tryd.ntmps11
  go_wp2_with (go_at_call 27; fail)
  have hb : Below w.heap.size w ((w.alloc (.cells #[.int .i64 wy, .int .i64 cy, .slice p n c] 39)).alloc (.cells #[.int .i64 wy, .int .i64 cy, .slice q n d] 39)) := bel2 _ _ _
  refine (HEq.out _ _ _ (HI.out _ hb).1 (HI.out _ hb).2).mono ?_
  rintro e wb ⟨rfl, m, rfl⟩
  have HB : Hid (Below w.heap.size w (((w.alloc (.cells #[.int .i64 wy, .int .i64 cy, .slice p n c] 39)).alloc (.cells #[.int .i64 wy, .int .i64 cy, .slice q n d] 39)).drewN m)) := hb.trans ((drewN_bel _ m).mono hb.size)
  clear hb
  go_wp2
  go_ret
  exact ⟨rfl, HB.out⟩
end Go.Proofs.YtjmbjpimabnohaaDoor.Mid

namespace Go.Proofs.YtjmbjpimabnohaaDoor.Mid
set_option linter.unusedVariables false
set_option linter.unusedSimpArgs false
open Go Go.RowKit

/-- Numbers in memory, as many as there may be. -/
def IntsRw (w : World) (v : Value) (l : List Int) : Prop :=
  ∃ q c, v = .slice q l.length c ∧ l.length ≤ c ∧ (∀ x ∈ l, I64 x) ∧ (l = [] ∨ ∃ g o, q = some ⟨g, o, none⟩ ∧ ∀ j x, l[j]? = some x → w.cell? ⟨g, o + j, none⟩ = some (.int .i64 x))
/-- A step in memory, however long its parts are. -/
structure StRw (w : World) (b o : Nat) (s : Ms) : Prop where
  c0 : w.cell? ⟨b, o, none⟩ = some (.int .i64 s.code)
  c1 : w.cell? ⟨b, o + 1, none⟩ = some (.int .i64 s.dst)
  c2 : w.cell? ⟨b, o + 2, none⟩ = some (.int .i64 s.a)
  c3 : w.cell? ⟨b, o + 3, none⟩ = some (.int .i64 s.b)
  c4 : w.cell? ⟨b, o + 4, none⟩ = some (.int .i64 s.c)
  c5 : w.cell? ⟨b, o + 5, none⟩ = some (.int .i64 s.n)
  c6 : w.cell? ⟨b, o + 6, none⟩ = some (.string ⟨s.op.toArray⟩)
  c7 : w.cell? ⟨b, o + 7, none⟩ = some (.int .i64 s.label)
  c8 : w.cell? ⟨b, o + 8, none⟩ = some (.string ⟨s.name.toArray⟩)
  c9 : ∃ v, w.cell? ⟨b, o + 9, none⟩ = some v ∧ IntsRw w v s.args
  i1 : I64 s.code ∧ I64 s.dst ∧ I64 s.a ∧ I64 s.b ∧ I64 s.c ∧ I64 s.n ∧ I64 s.label
  i2 : s.op.length ≤ 9223372036854775807 ∧ s.name.length ≤ 9223372036854775807
structure FnRw (w : World) (b o : Nat) (f : Mf) : Prop where
  c0 : w.cell? ⟨b, o, none⟩ = some (.string ⟨f.name.toArray⟩)
  c1 : w.cell? ⟨b, o + 1, none⟩ = some (.int .i64 f.params)
  c2 : ∃ v, w.cell? ⟨b, o + 2, none⟩ = some v ∧ IntsRw w v f.types
  c3 : ∃ q c, w.cell? ⟨b, o + 3, none⟩ = some (.slice q f.steps.length c) ∧ f.steps.length ≤ c ∧ (f.steps = [] ∨ ∃ g p, q = some ⟨g, p, none⟩ ∧ ∀ j s, f.steps[j]? = some s → StRw w g (p + j * 10) s)
  i1 : I64 f.params
  i2 : f.name.length ≤ 9223372036854775807
def RowRw (w : World) (q : Option Addr) (c : Nat) (L : List Mf) : Prop := L.length ≤ c ∧ (L = [] ∨ ∃ g p, q = some ⟨g, p, none⟩ ∧ ∀ j F, L[j]? = some F → FnRw w g (p + j * 4) F)
/-- No part is long. -/
def smallS (s : Ms) : Prop := s.args.length ≤ 20 ∧ s.op.length ≤ 20
def smallF (F : Mf) : Prop := F.steps.length ≤ 60 ∧ F.types.length ≤ 40 ∧ ∀ s ∈ F.steps, smallS s
theorem IntsRw.at' {w w' : World} {v : Value} {l : List Int} (h : IntsRw w v l) (hl : l.length ≤ 1000000) (hb : Below w.heap.size w w') : IntsAt w' v l := by
  obtain ⟨q, c, h1, h2, h3, h4⟩ := h
  refine ⟨q, c, h1, hl, h3, ?_⟩
  rcases h4 with h | ⟨g, o, e, h⟩
  · exact .inl h
  · exact .inr ⟨g, o, e, fun j x hx => by rw [hb.cell (p := ⟨g, o + j, none⟩) (cell_lt (h j x hx))]; exact h j x hx⟩
/-- A step that was copied. -/
theorem StRw.copy {w w' : World} {b o b' o' : Nat} {s : Ms} (h : StRw w b o s) (hs : smallS s) (hb : Below w.heap.size w w') (hc : ∀ i, i < 10 → w'.cell? ⟨b', o' + i, none⟩ = w.cell? ⟨b, o + i, none⟩) : StepAt w' b' o' s := by
  obtain ⟨v, h9, h10⟩ := h.c9
  exact ⟨by have := hc 0 (by omega); rw [Nat.add_zero, Nat.add_zero] at this; rw [this]; exact h.c0, by rw [hc 1 (by omega)]; exact h.c1, by rw [hc 2 (by omega)]; exact h.c2, by rw [hc 3 (by omega)]; exact h.c3, by rw [hc 4 (by omega)]; exact h.c4, by rw [hc 5 (by omega)]; exact h.c5, by rw [hc 6 (by omega)]; exact h.c6, by rw [hc 7 (by omega)]; exact h.c7, by rw [hc 8 (by omega)]; exact h.c8, ⟨v, by rw [hc 9 (by omega)]; exact h9, h10.at' (by have := hs.1; omega) hb⟩, h.i1, by have := hs.2; omega, h.i2.2⟩
theorem FnRw.at' {w w' : World} {b o : Nat} {F : Mf} (h : FnRw w b o F) (hs : smallF F) (hb : Below w.heap.size w w') : FnAt w' b o F := by
  have kp : ∀ (b o : Nat) (v : Value), w.cell? ⟨b, o, none⟩ = some v → w'.cell? ⟨b, o, none⟩ = some v := fun b o v hv => by rw [hb.cell (p := ⟨b, o, none⟩) (cell_lt hv)]; exact hv
  obtain ⟨v, h2, h2'⟩ := h.c2
  obtain ⟨q, c, h3, h3', h3''⟩ := h.c3
  refine ⟨kp _ _ _ h.c0, kp _ _ _ h.c1, ⟨v, kp _ _ _ h2, h2'.at' (by have := hs.2.1; omega) hb⟩, ⟨q, c, kp _ _ _ h3, h3', ?_⟩, h.i1, h.i2, by have := hs.2.1; omega, by have := hs.1; omega⟩
  rcases h3'' with h | ⟨g, p, e, h⟩
  · exact .inl h
  · refine .inr ⟨g, p, e, fun j s hj => (h j s hj).copy (hs.2.2 s (List.mem_of_getElem? hj)) hb (fun i hi => ?_)⟩
    have hlt : g < w.heap.size := cell_lt (h j s hj).c0
    rw [hb.cell (p := ⟨g, p + j * 10 + i, none⟩) hlt]
/-- The first steps, laid anew in a row. -/
def StNew (w wr : World) (B : Nat) (sv : Value) (F : Mf) (k : Nat) : Prop :=
  ∃ cs : List Value, wr.ownsRow B 58 10 sv k cs ∧ ∀ j s, j < k → F.steps[j]? = some s → ∃ gs ps, StRw w gs ps s ∧ ∀ i, i < 10 → cs[j * 10 + i]? = w.cell? ⟨gs, ps + i, none⟩
theorem StNew.on {w wr wr' : World} {B B' : Nat} {sv : Value} {F : Mf} {k : Nat} (h : StNew w wr B sv F k) (hB : B' ≤ B) (hk : ∀ i, sv.ownBlock = some i → wr'.heap[i]? = wr.heap[i]?) : StNew w wr' B' sv F k := by
  obtain ⟨cs, h1, h2⟩ := h
  exact ⟨cs, own_mono (own_at h1 hk) hB, h2⟩
theorem StNew.nil (w wr : World) (B : Nat) (F : Mf) : StNew w wr B (.slice none 0 0) F 0 := ⟨[], World.ownsRow_nil _ _ _ _, fun j s hj => by omega⟩
/-- A function whose steps were laid anew. -/
structure FnNew (w wr : World) (B : Nat) (row : List Value) (j : Nat) (F : Mf) (g p : Nat) : Prop where
  sm : smallF F
  cp : ∀ i, i < 3 → row[j * 4 + i]? = w.cell? ⟨g, p + j * 4 + i, none⟩
  st : ∃ sv, row[j * 4 + 3]? = some sv ∧ StNew w wr B sv F F.steps.length
/-- The first functions, laid anew. -/
structure CoI (w : World) (ql : Option Addr) (L : List Mf) (i : Nat) (wr : World) (v : Value) : Prop where
  bel : Below w.heap.size w wr
  own : ∃ row : List Value, wr.ownsRow w.heap.size 57 4 v i row ∧ ∀ j F g p, j < i → L[j]? = some F → ql = some ⟨g, p, none⟩ → FnNew w wr w.heap.size row j F g p
theorem info58 : (Tryd.prog.info? 58).map (fun i => (i.zero, i.size, i.bytes)) = some (some (.agg #[.int .i64 0, .int .i64 0, .int .i64 0, .int .i64 0, .int .i64 0, .int .i64 0, .string ⟨#[]⟩, .int .i64 0, .string ⟨#[]⟩, .slice none 0 0]), 10, 112) := by kernel_rfl
theorem info57 : (Tryd.prog.info? 57).map (fun i => (i.zero, i.size, i.bytes)) = some (some (.agg #[.string ⟨#[]⟩, .int .i64 0, .slice none 0 0, .slice none 0 0]), 4, 72) := by kernel_rfl
theorem und55 : Tryd.prog.underlying 55 = some (.slice 58) := Tryd.underlying55
theorem und25 : Tryd.prog.underlying 25 = some (.slice 57) := Tryd.underlying25
end Go.Proofs.YtjmbjpimabnohaaDoor.Mid

namespace Go.Proofs.YtjmbjpimabnohaaDoor.Mid
set_option linter.unusedVariables false
set_option linter.unusedSimpArgs false
open Go Go.RowKit

theorem own_row {w : World} {B e z n : Nat} {v : Value} {l : List Value} (h : w.ownsRow B e z v n l) : (v = .slice none 0 0 ∧ n = 0) ∨ ∃ g cap, v = .slice (some ⟨g, 0, none⟩) n cap ∧ n ≤ cap ∧ ∀ j x, l[j]? = some x → w.cell? ⟨g, j, none⟩ = some x := by
  obtain ⟨e1, hh⟩ := h
  rcases hh with ⟨rfl, e2⟩ | ⟨g, cap, cur, rfl, hb, hg, hc, hle, hz, ht⟩
  · exact .inl ⟨rfl, e2⟩
  · refine .inr ⟨g, cap, rfl, hc, fun j x hx => cell_at hg ?_⟩
    rw [← ht, List.getElem?_take] at hx
    split at hx
    · simpa using hx
    · cases hx
theorem st_new {w wr w' : World} {B : Nat} {sv : Value} {F : Mf} (h : StNew w wr B sv F F.steps.length) (hs : smallF F) (hb : Below w.heap.size w w') (hk : ∀ i, sv.ownBlock = some i → w'.heap[i]? = wr.heap[i]?) : ∃ q c, sv = .slice q F.steps.length c ∧ F.steps.length ≤ c ∧ (F.steps = [] ∨ ∃ g p, q = some ⟨g, p, none⟩ ∧ ∀ j s, F.steps[j]? = some s → StepAt w' g (p + j * 10) s) := by
  obtain ⟨cs, h1, h2⟩ := h
  rcases own_row (own_at h1 hk) with ⟨e1, e2⟩ | ⟨g, cap, e1, e2, e3⟩
  · exact ⟨none, 0, by rw [e1, e2], by omega, .inl (List.length_eq_zero_iff.1 e2)⟩
  · refine ⟨_, _, e1, e2, .inr ⟨g, 0, rfl, fun j s hj => ?_⟩⟩
    obtain ⟨gs, ps, a1, a2⟩ := h2 j s (List.getElem?_eq_some_iff.1 hj).1 hj
    refine a1.copy (hs.2.2 s (List.mem_of_getElem? hj)) hb (fun i hi => ?_)
    have hc : ∃ x, w.cell? ⟨gs, ps + i, none⟩ = some x := by
      have : i = 0 ∨ i = 1 ∨ i = 2 ∨ i = 3 ∨ i = 4 ∨ i = 5 ∨ i = 6 ∨ i = 7 ∨ i = 8 ∨ i = 9 := by omega
      obtain ⟨v9, h9, _⟩ := a1.c9
      rcases this with rfl | rfl | rfl | rfl | rfl | rfl | rfl | rfl | rfl | rfl
      · exact ⟨_, a1.c0⟩
      · exact ⟨_, a1.c1⟩
      · exact ⟨_, a1.c2⟩
      · exact ⟨_, a1.c3⟩
      · exact ⟨_, a1.c4⟩
      · exact ⟨_, a1.c5⟩
      · exact ⟨_, a1.c6⟩
      · exact ⟨_, a1.c7⟩
      · exact ⟨_, a1.c8⟩
      · exact ⟨_, h9⟩
    obtain ⟨x, hx⟩ := hc
    rw [Nat.zero_add, hx]
    exact e3 _ _ (by rw [a2 i hi, hx])
/-- What was laid anew is the same functions. -/
theorem row_new {w wr w' : World} {ql : Option Addr} {cl : Nat} {L : List Mf} {v : Value} (hr : RowRw w ql cl L) (h : CoI w ql L L.length wr v) (h15 : L.length ≤ 15) (hb : Below wr.heap.size wr w') : ∃ q c, v = .slice q L.length c ∧ RowAt w' q c L ∧ ∀ F ∈ L, smallF F := by
  obtain ⟨row, h1, h2⟩ := h.own
  have hbw : Below w.heap.size w w' := h.bel.trans (hb.mono h.bel.size)
  have hown := own_at h1 (fun i hi => hb.block i (own_lt h1 i hi))
  rcases own_row hown with ⟨e1, e2⟩ | ⟨g, cap, e1, e2, e3⟩
  · have hL : L = [] := List.length_eq_zero_iff.1 e2
    exact ⟨none, 0, by rw [e1, e2], ⟨⟨by omega, by omega⟩, .inl hL⟩, fun F hF => by rw [hL] at hF; cases hF⟩
  · rcases hr.2 with hL | ⟨g0, p0, e0, hfn⟩
    · exact ⟨_, _, e1, ⟨⟨e2, by omega⟩, .inl hL⟩, fun F hF => by rw [hL] at hF; cases hF⟩
    refine ⟨_, _, e1, ⟨⟨e2, by omega⟩, .inr ⟨g, 0, rfl, fun j F hj => ?_⟩⟩, fun F hF => ?_⟩
    · have hjl := (List.getElem?_eq_some_iff.1 hj).1
      obtain ⟨sm, cp, sv, s1, s2⟩ := h2 j F g0 p0 hjl hj e0
      have hF := hfn j F hj
      obtain ⟨v2, b1, b2⟩ := hF.c2
      have k0 : w'.cell? ⟨g, 0 + j * 4, none⟩ = some (.string ⟨F.name.toArray⟩) := by
        rw [Nat.zero_add]
        have := cp 0 (by omega)
        rw [Nat.add_zero, Nat.add_zero, hF.c0] at this
        exact e3 _ _ this
      have k1 : w'.cell? ⟨g, 0 + j * 4 + 1, none⟩ = some (.int .i64 F.params) := by
        rw [Nat.zero_add]
        exact e3 _ _ (by rw [cp 1 (by omega)]; exact hF.c1)
      have k2 : w'.cell? ⟨g, 0 + j * 4 + 2, none⟩ = some v2 := by
        rw [Nat.zero_add]
        exact e3 _ _ (by rw [cp 2 (by omega)]; exact b1)
      have k3 : w'.cell? ⟨g, 0 + j * 4 + 3, none⟩ = some sv := by
        rw [Nat.zero_add]
        exact e3 _ _ s1
      obtain ⟨q3, c3, t1, t2, t3⟩ := st_new s2 sm hbw (fun i hi => by
        obtain ⟨cs, z1, _⟩ := s2
        exact hb.block i (own_lt z1 i hi))
      refine ⟨⟨k0, k1, ⟨v2, k2, b2.at' (by have := sm.2.1; omega) hbw⟩, ⟨q3, c3, by rw [← t1]; exact k3, t2, t3⟩, hF.i1, hF.i2, by have := sm.2.1; omega, by have := sm.1; omega⟩, ?_⟩
      obtain ⟨q2, c2, e, l2, _⟩ := b2
      exact ⟨q2, c2, by rw [← e]; exact k2, l2⟩
    · obtain ⟨j, hj⟩ := List.getElem?_of_mem hF
      exact (h2 j F g0 p0 (List.getElem?_eq_some_iff.1 hj).1 hj e0).sm
/-- What the law's code leaves. -/
def CoP (w : World) (ql : Option Addr) (cl : Nat) (L : List Mf) (e : Ending) (w' : World) : Prop :=
  (e = .returned (.tuple #[.pointer none, .slice none 0 0, .bool false]) ∧ Below w.heap.size w w') ∨
  (∃ cb q c, e = .returned (.tuple #[ptr cb, .slice q L.length c, .bool true]) ∧ L.length ≤ 15 ∧ (∀ F ∈ L, smallF F) ∧ CodeAt w' cb ql cl L ∧ RowAt w' q c L ∧ Below w.heap.size w w')
theorem co_fin {w wr : World} {ql : Option Addr} {cl n : Nat} {L : List Mf} {q : Option Addr} {c : Nat} (hr : RowRw w ql cl L) (hn : L.length = n) (h : CoI w ql L n wr (.slice q n c)) (h15 : n ≤ 15) : CoP w ql cl L (.returned (.tuple #[ptr wr.heap.size, .slice q n c, .bool true])) (wr.alloc (.cells #[.slice ql n cl] 53)) := by
  subst hn
  obtain ⟨q', c', e, h1, h2⟩ := row_new hr h h15 (al_bel2 wr (.cells #[.slice ql L.length cl] 53))
  injection e with e1 e2 e3
  subst e1 e3
  have hbw : Below w.heap.size w (wr.alloc (.cells #[.slice ql L.length cl] 53)) := h.bel.trans ((al_bel2 wr _).mono h.bel.size)
  refine .inr ⟨_, _, _, rfl, h15, h2, ⟨cell_at (i := 0) (heap_alloc_last _ _) rfl, ⟨hr.1, by omega⟩, ?_⟩, h1, hbw⟩
  rcases hr.2 with hL | ⟨g, p, e, hf⟩
  · exact .inl hL
  · exact .inr ⟨g, p, e, fun j F hj => (hf j F hj).at' (h2 F (List.mem_of_getElem? hj)) hbw⟩
end Go.Proofs.YtjmbjpimabnohaaDoor.Mid

namespace Go.Proofs.YtjmbjpimabnohaaDoor.Mid
set_option linter.unusedVariables false
set_option linter.unusedSimpArgs false
open Go Go.RowKit

theorem own_ty' {w : World} {B e z n i : Nat} {v : Value} {l : List Value} (h : w.ownsRow B e z v n l) (hi : v.ownBlock = some i) : ∃ cs, w.heap[i]? = some (.cells cs e) := by
  rcases h.2 with ⟨hv, _⟩ | ⟨g, cap, cur, hv, hb, hg, _⟩
  · rw [hv] at hi; cases hi
  · rw [hv] at hi
    injection hi with hi
    subst hi
    exact ⟨cur, hg⟩
/-- Inside: so many steps of a function were laid anew. -/
structure CjI (w wr : World) (F : Mf) (fbx : Obj) (y : ByteArray) (pr : Int) (tv : Value) (m : Nat) (sv : Value) (w2 : World) : Prop where
  bel : Below wr.heap.size wr w2
  bf : w2.heap[wr.heap.size]? = some fbx
  bx : w2.heap[wr.heap.size + 1]? = some (.cells #[.string y, .int .i64 pr, tv, sv] 57)
  st : StNew w w2 (wr.heap.size + 2) sv F m
  sm : ∀ j s, j < m → F.steps[j]? = some s → smallS s
/-- One more step. -/
theorem cj_next {w wr w2 w5 : World} {F : Mf} {fbx : Obj} {y : ByteArray} {pr : Int} {tv : Value} {m : Nat} {q : Option Addr} {c g5 cap5 : Nat} {s : Ms} {gs ps : Nat} {v0 v1 v2 v3 v4 v5 v6 v7 v8 v9 : Value} {zs : List Value}
    (h : CjI w wr F fbx y pr tv m (.slice q m c) w2) (hzs : ∀ j s, j < m → F.steps[j]? = some s → ∃ gs ps, StRw w gs ps s ∧ ∀ i, i < 10 → zs[j * 10 + i]? = w.cell? ⟨gs, ps + i, none⟩) (hzl : zs.length = m * 10) (hs : F.steps[m]? = some s) (hsm : smallS s) (hr : StRw w gs ps s)
    (hv : ∀ i, i < 10 → ([v0, v1, v2, v3, v4, v5, v6, v7, v8, v9] : List Value)[i]? = w.cell? ⟨gs, ps + i, none⟩)
    (hown : w5.ownsRow (wr.heap.size + 2) 58 10 (.slice (some ⟨g5, 0, none⟩) (m + 1) cap5) (m + 1) (zs ++ [v0, v1, v2, v3, v4, v5, v6, v7, v8, v9])) {A : Obj} (hgr : (w2.alloc A).drew.grownBy w5 (Value.slice q m c).ownBlock) (hq : ∀ i, (Value.slice q m c).ownBlock = some i → wr.heap.size + 2 ≤ i) :
    w5.heap[wr.heap.size + 1]? = some (.cells #[.string y, .int .i64 pr, tv, .slice q m c] 57) ∧ CjI w wr F fbx y pr tv (m + 1) (.slice (some ⟨g5, 0, none⟩) (m + 1) cap5) (w5.setCell ⟨wr.heap.size + 1, 3, none⟩ (.slice (some ⟨g5, 0, none⟩) (m + 1) cap5)) := by
  have hlt2 : wr.heap.size + 1 < w2.heap.size := (Array.getElem?_eq_some_iff.1 h.bx).1
  have hkeep : ∀ b, b < wr.heap.size + 2 → w5.heap[b]? = w2.heap[b]? := fun b hb => by
    rw [hgr.block b (by show b < (w2.alloc A).heap.size; simp; omega) (fun e => by have := hq b e.symm; omega)]
    exact (al_bel w2 A).block b (by omega)
  have hx5 : w5.heap[wr.heap.size + 1]? = some (.cells #[.string y, .int .i64 pr, tv, .slice q m c] 57) := by rw [hkeep _ (by omega)]; exact h.bx
  have hg5 := own_lt hown g5 rfl
  have hg6 := (hown.lt g5 rfl).1
  refine ⟨hx5, ⟨?_, ?_, ?_, ⟨_, own_at hown (fun i hi => heap_setCell_other _ _ _ _ (by show i ≠ wr.heap.size + 1; have := (hown.lt i hi).1; omega)), fun j t hj ht => ?_⟩, fun j t hj ht => ?_⟩⟩
  · refine ⟨hgr.os.trans h.bel.os, hgr.tape.trans h.bel.tape, hgr.output.trans h.bel.output, by have h1 := hgr.size; have h2 := h.bel.size; simp at h1 ⊢; omega, fun b hb => ?_⟩
    rw [heap_setCell_other _ _ _ _ (by show b ≠ wr.heap.size + 1; omega), hkeep b (by omega)]
    exact h.bel.block b hb
  · rw [heap_setCell_other _ _ _ _ (by show wr.heap.size ≠ wr.heap.size + 1; omega), hkeep _ (by omega)]
    exact h.bf
  · exact heap_setCell_same _ _ _ _ _ _ hx5
  · by_cases e : j < m
    · obtain ⟨gs', ps', a1, a2⟩ := hzs j t e ht
      refine ⟨gs', ps', a1, fun i hi => ?_⟩
      rw [List.getElem?_append_left (by omega)]
      exact a2 i hi
    · have e2 : j = m := by omega
      subst e2
      rw [hs] at ht
      injection ht with ht
      subst ht
      refine ⟨gs, ps, hr, fun i hi => ?_⟩
      rw [List.getElem?_append_right (by omega), hzl, show j * 10 + i - j * 10 = i by omega]
      exact hv i hi
  · by_cases e : j < m
    · exact h.sm j t e ht
    · have e2 : j = m := by omega
      subst e2
      rw [hs] at ht
      injection ht with ht
      subst ht
      exact hsm
/-- One more function. -/
theorem co_next {w wr w2 w5 : World} {ql : Option Addr} {L : List Mf} {k : Nat} {F : Mf} {g p : Nat} {fbx : Obj} {y : ByteArray} {pr : Int} {tv sv : Value} {q : Option Addr} {c g5 cap5 : Nat} {row : List Value}
    (hI : CoI w ql L k wr (.slice q k c)) (hrow : ∀ j F g p, j < k → L[j]? = some F → ql = some ⟨g, p, none⟩ → FnNew w wr w.heap.size row j F g p) (hrl : row.length = k * 4) (hF : L[k]? = some F) (hql : ql = some ⟨g, p, none⟩) (h : CjI w wr F fbx y pr tv F.steps.length sv w2)
    (hc0 : w.cell? ⟨g, p + k * 4, none⟩ = some (.string y)) (hc1 : w.cell? ⟨g, p + k * 4 + 1, none⟩ = some (.int .i64 pr)) (hc2 : w.cell? ⟨g, p + k * 4 + 2, none⟩ = some tv) (hs1 : F.steps.length ≤ 60) (hs2 : F.types.length ≤ 40)
    (hown : w5.ownsRow w.heap.size 57 4 (.slice (some ⟨g5, 0, none⟩) (k + 1) cap5) (k + 1) (row ++ [.string y, .int .i64 pr, tv, sv])) {A : Obj} (hgr : (w2.alloc A).grownBy w5 (Value.slice q k c).ownBlock) (hq : ∀ i, (Value.slice q k c).ownBlock = some i → ∃ cs, wr.heap[i]? = some (.cells cs 57)) (hq2 : ∀ i, (Value.slice q k c).ownBlock = some i → w.heap.size ≤ i) :
    CoI w ql L (k + 1) w5 (.slice (some ⟨g5, 0, none⟩) (k + 1) cap5) := by
  have hqw : ∀ i, (Value.slice q k c).ownBlock = some i → i < wr.heap.size := fun i hi => by
    obtain ⟨cs, hc⟩ := hq i hi
    exact (Array.getElem?_eq_some_iff.1 hc).1
  have hb2 : Below w.heap.size w w2 := hI.bel.trans (h.bel.mono hI.bel.size)
  have hbA : Below w.heap.size w (w2.alloc A) := hb2.trans ((al_bel w2 A).mono hb2.size)
  have hsz2 := h.bel.size
  have keepst : ∀ (v : Value) (n : Nat) (G : Mf) (W : World) (B : Nat), (∀ b, b < W.heap.size → W.heap[b]? = w2.heap[b]? ) → W.heap.size ≤ w2.heap.size → StNew w W B v G n → w.heap.size ≤ B → StNew w w5 w.heap.size v G n := fun v n G W B hW hWs hst hB => by
    refine hst.on hB (fun i hi => ?_)
    obtain ⟨cs, z1, _⟩ := hst
    have hil := own_lt z1 i hi
    obtain ⟨ds, hd⟩ := own_ty' z1 hi
    rw [hgr.block i (by show i < (w2.alloc A).heap.size; simp; omega) (fun e => ?_), (al_bel w2 A).block i (by omega), ← hW i hil]
    obtain ⟨cs', hc'⟩ := hq i e.symm
    have hlt := (Array.getElem?_eq_some_iff.1 hc').1
    rw [hW i hil, h.bel.block i hlt, hc'] at hd
    injection hd with hd
    injection hd with _ hd
    cases hd
  refine ⟨hbA.grown hgr hbA.size hq2, ⟨_, hown, fun j G g' p' hj hG hq' => ?_⟩⟩
  rw [hql] at hq'
  injection hq' with hq'
  injection hq' with e1 e2
  subst e1 e2
  by_cases e : j < k
  · obtain ⟨a1, a2, sv', a3, a4⟩ := hrow j G g p e hG hql
    refine ⟨a1, fun i hi => ?_, sv', ?_, keepst sv' _ G wr _ (fun b hb => (h.bel.block b hb).symm) hsz2 a4 (Nat.le_refl _)⟩
    · rw [List.getElem?_append_left (by omega)]
      exact a2 i hi
    · rw [List.getElem?_append_left (by omega)]
      exact a3
  · have e2 : j = k := by omega
    subst e2
    rw [hF] at hG
    injection hG with hG
    subst hG
    refine ⟨⟨hs1, hs2, fun s hs => ?_⟩, fun i hi => ?_, sv, ?_, keepst sv _ F w2 _ (fun b hb => rfl) (Nat.le_refl _) h.st (by have := hI.bel.size; omega)⟩
    · obtain ⟨i, hi⟩ := List.getElem?_of_mem hs
      exact h.sm i s (List.getElem?_eq_some_iff.1 hi).1 hi
    · rw [List.getElem?_append_right (by omega), hrl, show j * 4 + i - j * 4 = i by omega]
      have : i = 0 ∨ i = 1 ∨ i = 2 := by omega
      rcases this with rfl | rfl | rfl
      · exact hc0.symm
      · exact hc1.symm
      · exact hc2.symm
    · rw [List.getElem?_append_right (by omega), hrl, show j * 4 + 3 - j * 4 = 3 by omega]
      rfl
end Go.Proofs.YtjmbjpimabnohaaDoor.Mid
