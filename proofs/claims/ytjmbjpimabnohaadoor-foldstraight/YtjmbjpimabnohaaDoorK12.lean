/- SA SD SE WG SF UA UB UC UD -/
import Derived.Shelf.Strings.Shaped
import Derived.Shelf.Slices.Clone
import Derived.Shelf.SlicesE.Clone
import Derived.Lib.IndexAny
import Derived.Test.YtjmbjpimabnohaaDoorK11
import Derived.Deep.Upon
namespace Go.Proofs.YtjmbjpimabnohaaDoor.Mid
set_option linter.unusedVariables false
set_option linter.unusedSimpArgs false
open Go Go.RowKit
def stepsV (L : List Mf) : Nat := (L.map (fun F => F.steps.length)).sum
theorem steps_snoc (L : List Mf) (F : Mf) : stepsV (L ++ [F]) = stepsV L + F.steps.length := by simp [stepsV]
theorem steps_le : ∀ (L : List Mf), (∀ F ∈ L, F.steps.length ≤ 1000000) → stepsV L ≤ L.length * 1000000
  | [], _ => by simp [stepsV]
  | F :: L, h => by
    have h1 := steps_le L (fun G hG => h G (by simp [hG]))
    have h2 := h F (by simp)
    simp only [stepsV, List.map_cons, List.sum_cons, List.length_cons] at h1 ⊢
    omega
def NmP (n : Nat) (w : World) (e : Ending) (w' : World) : Prop := e = .returned (.int .i64 (n : Int)) ∧ Below w.heap.size w w'
set_option maxRecDepth 100000 in
set_option maxHeartbeats 2000000 in
theorem Steps_any (w : World) (cb : Nat) (q : Option Addr) (c : Nat) (L : List Mf) (h : CodeAt w cb q c L) : Calls Tryd.prog 10 #[ptr cb] w (NmP (stepsV L) w) := by
  have k0 := h.c0
  have HA : Hid (CodeAt w cb q c L) := h
  obtain ⟨n, hn⟩ : ∃ n, n = L.length := ⟨_, rfl⟩
  have HN : Hid (n = L.length) := hn
  have hn6 : n ≤ 1000000 := by rw [hn]; exact h.le.2
  rw [← hn] at k0
  have HBd : Hid (∀ i, i ≤ n → stepsV (L.take i) ≤ i * 1000000) := fun i hi => by
    have := steps_le (L.take i) (fun F hF => by
      have hF' := List.mem_of_mem_take hF
      obtain ⟨j, hj⟩ := List.getElem?_of_mem hF'
      rcases HA.out.fn with h2 | ⟨g, p, _, h2⟩
      · rw [h2] at hj; simp at hj
      · exact (h2 j F hj).i2.2.2)
    rw [List.length_take] at this
    have hm : min i L.length ≤ i := Nat.min_le_left _ _
    exact Nat.le_trans this (Nat.mul_le_mul_right _ hm)
  generalize hG : NmP (stepsV L) w = G
  have HG : Hid (NmP (stepsV L) w = G) := hG
  clear h hn hG
  go_enter Tryd.func10, Tryd.ntmps10
  go_wp2_with fail
  go_loopw [3, 13] (fun v3 v wr => ∃ i s : Nat, i ≤ n ∧ v3 = .int .i64 (s : Int) ∧ v = .int .i64 i ∧ Hid (s = stepsV (L.take i)) ∧ Hid (Below w.heap.size w wr)) (fun _ v _ => n - (intOf v).toNat)
  case atStart => exact ⟨0, 0, Nat.zero_le _, rfl, rfl, rfl, Below.refl _ _⟩
  case round =>
    obtain ⟨i, s, hin, rfl, rfl, HS, HB⟩ := hrel
    have hs6 : s ≤ 1000000000000 := by have h1 := HBd.out i hin; have h2 := HS.out; omega
    by_cases hlt2 : i < n
    · obtain ⟨F, hF⟩ : ∃ F, L[i]? = some F := ⟨L[i]'(by rw [← HN.out]; exact hlt2), List.getElem?_eq_getElem _⟩
      obtain ⟨g, p, rfl, hfn⟩ : ∃ g p, q = some ⟨g, p, none⟩ ∧ ∀ j F, L[j]? = some F → FnAt w g (p + j * 4) F := by
        rcases HA.out.fn with h | h
        · rw [h] at hF; simp at hF
        · exact h
      have hFA := (hfn i F hF).below HB.out
      have d0 := hFA.c0
      have d1 := hFA.c1
      obtain ⟨vt, d2, qt, ct, rfl, _⟩ := hFA.c2
      obtain ⟨qs, cs, d3, _, _⟩ := hFA.c3
      obtain ⟨ns, hns⟩ : ∃ ns, ns = F.steps.length := ⟨_, rfl⟩
      obtain ⟨nt, hnt⟩ : ∃ nt, nt = F.types.length := ⟨_, rfl⟩
      obtain ⟨y, hy⟩ : ∃ y : ByteArray, y = ⟨F.name.toArray⟩ := ⟨_, rfl⟩
      obtain ⟨pa, hpa⟩ : ∃ pa, pa = F.params := ⟨_, rfl⟩
      rw [← hns] at d3
      rw [← hnt] at d2
      rw [← hy] at d0
      rw [← hpa] at d1
      have hns6 : ns ≤ 1000000 := by rw [hns]; exact hFA.i2.2.2
      have HS2 : Hid (s + ns = stepsV (L.take (i + 1))) := by show _ = _; rw [take_snoc hF, steps_snoc, ← HS.out, hns]
      have HB2 : Hid (Below w.heap.size w (wr.alloc (.cells #[.string y, .int .i64 pa, .slice qt nt ct, .slice qs ns cs] 35))) := HB.out.trans ((al_bel2 _ _).mono HB.out.size)
      have hl9 : (i : Int) < (n : Int) := by omega
      clear hF hfn hFA hns hnt hy hpa
      go_wp2
      exact ⟨⟨i + 1, s + ns, by omega, by go_num, by go_num, HS2, HB2⟩, by simp [intOf]; omega⟩
    · have hin2 : i = n := by omega
      subst hin2
      have HE : Hid (G (.returned (.int .i64 (s : Int))) wr) := by
        show G _ _
        rw [← HG.out, HS.out, HN.out, List.take_length]
        exact ⟨rfl, HB.out⟩
      go_wp2
      exact HE.out
def OfE (w : World) (fs : By → Option Mf) (ob : Nat) (ql : Option Addr) (nl cl : Nat) : Prop := ob < w.heap.size ∧ ∀ nm : By, nm.length ≤ 9223372036854775807 →
  (fs nm = none ∧ ∃ k, ∀ W, W.heap[ob]? = w.heap[ob]? → (Instr.lookup 66 (.map (some ob)) (.string ⟨nm.toArray⟩) true).run Tryd.prog W = .ok (.tuple #[.int .i64 k, .bool false]) W) ∨
  (∃ g p j G, ql = some ⟨g, p, none⟩ ∧ j < nl ∧ nl ≤ cl ∧ fs nm = some G ∧ FnAt w g (p + j * 4) G ∧ (0 ≤ G.params ∧ G.params ≤ G.types.length) ∧ (∃ qG cG, w.cell? ⟨g, p + j * 4 + 2, none⟩ = some (.slice qG G.types.length cG) ∧ G.types.length ≤ cG) ∧ ∀ W, W.heap[ob]? = w.heap[ob]? → (Instr.lookup 66 (.map (some ob)) (.string ⟨nm.toArray⟩) true).run Tryd.prog W = .ok (.tuple #[.int .i64 (j : Int), .bool true]) W)
structure RowAt (w : World) (q : Option Addr) (c : Nat) (L : List Mf) : Prop where
  le : L.length ≤ c ∧ L.length ≤ 1000000
  fn : L = [] ∨ ∃ g p, q = some ⟨g, p, none⟩ ∧ ∀ j F, L[j]? = some F → FnAt w g (p + j * 4) F ∧ ∃ qG cG, w.cell? ⟨g, p + j * 4 + 2, none⟩ = some (.slice qG F.types.length cG) ∧ F.types.length ≤ cG
theorem RowAt.below {w w' : World} {q : Option Addr} {c : Nat} {L : List Mf} (h : RowAt w q c L) (hb : Below w.heap.size w w') : RowAt w' q c L := by
  refine ⟨h.le, ?_⟩
  rcases h.fn with h | ⟨g, p, e, h⟩
  · exact .inl h
  · refine .inr ⟨g, p, e, fun j F hF => ?_⟩
    obtain ⟨h1, qG, cG, h2, h3⟩ := h j F hF
    exact ⟨h1.below hb, qG, cG, by rw [hb.cell (p := ⟨g, p + j * 4 + 2, none⟩) (cell_lt h2)]; exact h2, h3⟩
theorem wpl_run_append {P : Program} (w : World) {ops : Array Oper} {rest : List Oper} {o : Oper} {a : Act} {Q : Exit → Act → World → Prop} (hgd : o.guard = none) (s x : Operand) (t tx : TypeId)
    (ho : o.op = .call { callee := .builtin .append, args := #[s, x], argTypes := #[t, tx] }) {v xv v' : Value} {w' : World} (hv : a.eval s = v) (hx : a.eval x = xv)
    (hrun : (Builtin.append_ #[t, tx] o.type #[v, xv]).run P w = .ok v' w') (hK : wpList P ops Q rest (a.put o.dst v') w') : wpList P ops Q (o :: rest) a w := by
  refine wpList_plain hgd fun K hK' => ?_
  unfold Oper.wp
  simp [execOp, ho, resolve, invoke, builtin, hv, hx, hrun, Result.andThen]
  exact hK' _ _ hK
end Go.Proofs.YtjmbjpimabnohaaDoor.Mid
namespace Go.Proofs.YtjmbjpimabnohaaDoor.Mid
set_option linter.unusedVariables false
set_option linter.unusedSimpArgs false
open Go Go.RowKit
def IntsRw (w : World) (v : Value) (l : List Int) : Prop :=
  ∃ q c, v = .slice q l.length c ∧ l.length ≤ c ∧ (∀ x ∈ l, I64 x) ∧ (l = [] ∨ ∃ g o, q = some ⟨g, o, none⟩ ∧ ∀ j x, l[j]? = some x → w.cell? ⟨g, o + j, none⟩ = some (.int .i64 x))
structure StRw (w : World) (b o : Nat) (s : Ms) : Prop where
  c0 : w.cell? ⟨b, o, none⟩ = some (.int .i64 s.code)
  c1 : w.cell? ⟨b, o + 1, none⟩ = some (.int .i64 s.dst)
  c2 : w.cell? ⟨b, o + 2, none⟩ = some (.int .i64 s.a)
  c3 : w.cell? ⟨b, o + 3, none⟩ = some (.int .i64 s.b)
  c4 : w.cell? ⟨b, o + 4, none⟩ = some (.int .i64 s.c)
  c5 : w.cell? ⟨b, o + 5, none⟩ = some (.int .i64 s.n)
  c6 : w.cell? ⟨b, o + 6, none⟩ = some (.string ⟨s.op.toArray⟩)
  c7 : w.cell? ⟨b, o + 7, none⟩ = some (.int .i64 s.label)
  c8 : w.cell? ⟨b, o + 8, none⟩ = some (.string ⟨s.name.toArray⟩)
  c9 : ∃ v, w.cell? ⟨b, o + 9, none⟩ = some v ∧ IntsRw w v s.args
  i1 : I64 s.code ∧ I64 s.dst ∧ I64 s.a ∧ I64 s.b ∧ I64 s.c ∧ I64 s.n ∧ I64 s.label
  i2 : s.op.length ≤ 9223372036854775807 ∧ s.name.length ≤ 9223372036854775807
structure FnRw (w : World) (b o : Nat) (f : Mf) : Prop where
  c0 : w.cell? ⟨b, o, none⟩ = some (.string ⟨f.name.toArray⟩)
  c1 : w.cell? ⟨b, o + 1, none⟩ = some (.int .i64 f.params)
  c2 : ∃ v, w.cell? ⟨b, o + 2, none⟩ = some v ∧ IntsRw w v f.types
  c3 : ∃ q c, w.cell? ⟨b, o + 3, none⟩ = some (.slice q f.steps.length c) ∧ f.steps.length ≤ c ∧ (f.steps = [] ∨ ∃ g p, q = some ⟨g, p, none⟩ ∧ ∀ j s, f.steps[j]? = some s → StRw w g (p + j * 10) s)
  i1 : I64 f.params
  i2 : f.name.length ≤ 9223372036854775807
def smallS (s : Ms) : Prop := s.args.length ≤ 20 ∧ s.op.length ≤ 20
def smallF (F : Mf) : Prop := F.steps.length ≤ 60 ∧ F.types.length ≤ 40 ∧ ∀ s ∈ F.steps, smallS s
theorem IntsRw.at' {w w' : World} {v : Value} {l : List Int} (h : IntsRw w v l) (hl : l.length ≤ 1000000) (hb : Below w.heap.size w w') : IntsAt w' v l := by
  obtain ⟨q, c, h1, h2, h3, h4⟩ := h
  refine ⟨q, c, h1, hl, h3, ?_⟩
  rcases h4 with h | ⟨g, o, e, h⟩
  · exact .inl h
  · exact .inr ⟨g, o, e, fun j x hx => by rw [hb.cell (p := ⟨g, o + j, none⟩) (cell_lt (h j x hx))]; exact h j x hx⟩
theorem StRw.copy {w w' : World} {b o b' o' : Nat} {s : Ms} (h : StRw w b o s) (hs : smallS s) (hb : Below w.heap.size w w') (hc : ∀ i, i < 10 → w'.cell? ⟨b', o' + i, none⟩ = w.cell? ⟨b, o + i, none⟩) : StepAt w' b' o' s := by
  obtain ⟨v, h9, h10⟩ := h.c9
  exact ⟨by have := hc 0 (by omega); rw [Nat.add_zero, Nat.add_zero] at this; rw [this]; exact h.c0, by rw [hc 1 (by omega)]; exact h.c1, by rw [hc 2 (by omega)]; exact h.c2, by rw [hc 3 (by omega)]; exact h.c3, by rw [hc 4 (by omega)]; exact h.c4, by rw [hc 5 (by omega)]; exact h.c5, by rw [hc 6 (by omega)]; exact h.c6, by rw [hc 7 (by omega)]; exact h.c7, by rw [hc 8 (by omega)]; exact h.c8, ⟨v, by rw [hc 9 (by omega)]; exact h9, h10.at' (by have := hs.1; omega) hb⟩, h.i1, by have := hs.2; omega, h.i2.2⟩
theorem FnRw.at' {w w' : World} {b o : Nat} {F : Mf} (h : FnRw w b o F) (hs : smallF F) (hb : Below w.heap.size w w') : FnAt w' b o F := by
  have kp : ∀ (b o : Nat) (v : Value), w.cell? ⟨b, o, none⟩ = some v → w'.cell? ⟨b, o, none⟩ = some v := fun b o v hv => by rw [hb.cell (p := ⟨b, o, none⟩) (cell_lt hv)]; exact hv
  obtain ⟨v, h2, h2'⟩ := h.c2
  obtain ⟨q, c, h3, h3', h3''⟩ := h.c3
  refine ⟨kp _ _ _ h.c0, kp _ _ _ h.c1, ⟨v, kp _ _ _ h2, h2'.at' (by have := hs.2.1; omega) hb⟩, ⟨q, c, kp _ _ _ h3, h3', ?_⟩, h.i1, h.i2, by have := hs.2.1; omega, by have := hs.1; omega⟩
  rcases h3'' with h | ⟨g, p, e, h⟩
  · exact .inl h
  · refine .inr ⟨g, p, e, fun j s hj => (h j s hj).copy (hs.2.2 s (List.mem_of_getElem? hj)) hb (fun i hi => ?_)⟩
    have hlt : g < w.heap.size := cell_lt (h j s hj).c0
    rw [hb.cell (p := ⟨g, p + j * 10 + i, none⟩) hlt]
def StNew (w wr : World) (B : Nat) (sv : Value) (F : Mf) (k : Nat) : Prop :=
  ∃ cs : List Value, wr.ownsRow B 58 10 sv k cs ∧ ∀ j s, j < k → F.steps[j]? = some s → ∃ gs ps, StRw w gs ps s ∧ ∀ i, i < 10 → cs[j * 10 + i]? = w.cell? ⟨gs, ps + i, none⟩
theorem StNew.on {w wr wr' : World} {B B' : Nat} {sv : Value} {F : Mf} {k : Nat} (h : StNew w wr B sv F k) (hB : B' ≤ B) (hk : ∀ i, sv.ownBlock = some i → wr'.heap[i]? = wr.heap[i]?) : StNew w wr' B' sv F k := by
  obtain ⟨cs, h1, h2⟩ := h
  exact ⟨cs, own_mono (own_at h1 hk) hB, h2⟩
theorem StNew.nil (w wr : World) (B : Nat) (F : Mf) : StNew w wr B (.slice none 0 0) F 0 := ⟨[], World.ownsRow_nil _ _ _ _, fun j s hj => by omega⟩
end Go.Proofs.YtjmbjpimabnohaaDoor.Mid
namespace Go.Proofs.YtjmbjpimabnohaaDoor.Mid
set_option linter.unusedVariables false
set_option linter.unusedSimpArgs false
open Go Go.RowKit
theorem own_row {w : World} {B e z n : Nat} {v : Value} {l : List Value} (h : w.ownsRow B e z v n l) : (v = .slice none 0 0 ∧ n = 0) ∨ ∃ g cap, v = .slice (some ⟨g, 0, none⟩) n cap ∧ n ≤ cap ∧ ∀ j x, l[j]? = some x → w.cell? ⟨g, j, none⟩ = some x := by
  obtain ⟨e1, hh⟩ := h
  rcases hh with ⟨rfl, e2⟩ | ⟨g, cap, cur, rfl, hb, hg, hc, hle, hz, ht⟩
  · exact .inl ⟨rfl, e2⟩
  · refine .inr ⟨g, cap, rfl, hc, fun j x hx => cell_at hg ?_⟩
    rw [← ht, List.getElem?_take] at hx
    split at hx
    · simpa using hx
    · cases hx
end Go.Proofs.YtjmbjpimabnohaaDoor.Mid
namespace Go.Proofs.YtjmbjpimabnohaaDoor.Mid
set_option linter.unusedVariables false
set_option linter.unusedSimpArgs false
open Go Go.RowKit
theorem OfE.below {w w' : World} {fs : By → Option Mf} {ob : Nat} {ql : Option Addr} {nl cl : Nat} (h : OfE w fs ob ql nl cl) (hb : Below w.heap.size w w') : OfE w' fs ob ql nl cl := by
  refine ⟨Nat.lt_of_lt_of_le h.1 hb.size, fun nm hnm => ?_⟩
  have hk := hb.block ob h.1
  rcases h.2 nm hnm with ⟨a1, k, a2⟩ | ⟨g, p, j, G, a1, a2, a3, a4, a5, a6, ⟨qG, cG, a7, a8⟩, a9⟩
  · exact .inl ⟨a1, k, fun W hW => a2 W (hW.trans hk)⟩
  · exact .inr ⟨g, p, j, G, a1, a2, a3, a4, a5.below hb, a6, ⟨qG, cG, by rw [hb.cell (p := ⟨g, p + j * 4 + 2, none⟩) (cell_lt a7)]; exact a7, a8⟩, fun W hW => a9 W (hW.trans hk)⟩
structure Rr where
  ab : List (Nat × Nat)
  av : Value
  iv : Value
  ov : Value
  s : Sg
def Xw (P : Nat) (r : Rr) (b : Nat) : Prop := b = P ∨ b ∈ r.ab.map (·.1) ∨ r.ov.ownBlock = some b ∨ r.av.ownBlock = some b
def arrsC (ab : List (Nat × Nat)) : List Value := .slice none 0 0 :: ab.map (fun p => .slice (some ⟨p.1, 0, none⟩) p.2 p.2)
abbrev wdC (r : Rr) (d : Nat) (way : Int) : Array Value := #[r.av, r.iv, .int .i64 r.s.fuel, .int .i64 (d : Int), .int .i64 way, .int .i64 0, r.ov]
structure Wm (w0 : World) (P : Nat) (w : World) (r : Rr) (d : Nat) (way : Int) : Prop where
  lo0 : w0.heap.size ≤ P
  le : w0.heap.size ≤ w.heap.size
  kp : ∀ b, b < w0.heap.size → w.heap[b]? = w0.heap[b]?
  pb : w.heap[P]? = some (.cells (wdC r d way) 87)
  inp : InW w0 r.iv r.s.inp
  out : w.ownsRow w0.heap.size 2 1 r.ov r.s.out.length (ints r.s.out)
  arrs : w.ownsRow w0.heap.size 23 1 r.av (r.ab.length + 1) (arrsC r.ab)
  apart : ∀ i, r.ov.ownBlock = some i → i ∉ r.ab.map (·.1)
  alen : r.ab.length = r.s.hp.length
  arr : ∀ (i b n : Nat), r.ab[i]? = some (b, n) → ∃ l, r.s.hp[i]? = some l ∧ l.length = n ∧ n ≤ 40 ∧ w.heap[b]? = some (.cells (ints l).toArray 2)
  lo : ∀ b ∈ r.ab.map (·.1), w0.heap.size ≤ b
  nd : (r.ab.map (·.1)).Nodup
  few : -9223372036854775808 ≤ r.s.fuel ∧ r.s.fuel ≤ 10000000
  told : r.s.out.length ≤ 200
  deep : d ≤ 40
structure Wz (P : Nat) (E : Nat → Prop) (w : World) (r : Rr) (w' : World) (r' : Rr) : Prop where
  os : w'.os = w.os
  tape : w'.tape = w.tape
  output : w'.output = w.output
  size : w.heap.size ≤ w'.heap.size
  blk : ∀ b, b < w.heap.size → ¬ Xw P r b → ¬ E b → w'.heap[b]? = w.heap[b]?
  pre : r.ab <+: r'.ab
  new : ∀ b, Xw P r' b → ¬ Xw P r b → w.heap.size ≤ b
theorem Wz.refl (P : Nat) (E : Nat → Prop) (w : World) (r : Rr) : Wz P E w r w r := ⟨rfl, rfl, rfl, Nat.le_refl _, fun _ _ _ _ => rfl, List.prefix_rfl, fun b h1 h2 => absurd h1 h2⟩
theorem Wz.trans {P : Nat} {E : Nat → Prop} {w1 w2 w3 : World} {r1 r2 r3 : Rr} (h : Wz P E w1 r1 w2 r2) (g : Wz P E w2 r2 w3 r3) : Wz P E w1 r1 w3 r3 := by
  refine ⟨g.os.trans h.os, g.tape.trans h.tape, g.output.trans h.output, Nat.le_trans h.size g.size, fun b hb hx he => ?_, h.pre.trans g.pre, fun b h3 h1 => ?_⟩
  · rw [g.blk b (Nat.lt_of_lt_of_le hb h.size) (fun h2 => by have := h.new b h2 hx; omega) he, h.blk b hb hx he]
  · by_cases h2 : Xw P r2 b
    · exact h.new b h2 h1
    · exact Nat.le_trans h.size (g.new b h3 h2)
theorem Wz.wide {P : Nat} {E E' : Nat → Prop} {w w' : World} {r r' : Rr} (h : Wz P E w r w' r') (hE : ∀ b, E b → E' b) : Wz P E' w r w' r' := ⟨h.os, h.tape, h.output, h.size, fun b hb hx he => h.blk b hb hx (fun e => he (hE b e)), h.pre, h.new⟩
theorem Wz.no {P : Nat} {E : Nat → Prop} {w w' : World} {r r' : Rr} (h : Wz P NoE w r w' r') : Wz P E w r w' r' := h.wide (fun _ h => h.elim)
theorem Wz.below {P : Nat} {E : Nat → Prop} {w w' : World} {r : Rr} (h : Below w.heap.size w w') : Wz P E w r w' r := ⟨h.os, h.tape, h.output, h.size, fun b hb _ _ => h.block b hb, List.prefix_rfl, fun b h1 h2 => absurd h1 h2⟩
theorem Wz.drop {P : Nat} {E : Nat → Prop} {w w' : World} {r r' : Rr} (h : Wz P E w r w' r') (hE : ∀ b, E b → w.heap.size ≤ b) : Wz P NoE w r w' r' :=
  ⟨h.os, h.tape, h.output, h.size, fun b hb hx _ => h.blk b hb hx (fun e => by have := hE b e; omega), h.pre, h.new⟩
theorem Wm.ltP {w0 : World} {P : Nat} {w : World} {r : Rr} {d : Nat} {way : Int} (h : Wm w0 P w r d way) : P < w.heap.size := (Array.getElem?_eq_some_iff.1 h.pb).1
theorem Wm.below {w0 : World} {P : Nat} {w w' : World} {r : Rr} {d : Nat} {way : Int} (h : Wm w0 P w r d way) (hb : Below w.heap.size w w') : Wm w0 P w' r d way := by
  refine ⟨h.lo0, Nat.le_trans h.le hb.size, fun b h1 => ?_, ?_, h.inp, own_at h.out (fun i hi => hb.block i (own_lt h.out i hi)), own_at h.arrs (fun i hi => hb.block i (own_lt h.arrs i hi)), h.apart, h.alen, fun i b n hi => ?_, h.lo, h.nd, h.few, h.told, h.deep⟩
  · rw [hb.block b (Nat.lt_of_lt_of_le h1 h.le)]; exact h.kp b h1
  · rw [hb.block P h.ltP]; exact h.pb
  · obtain ⟨l, a1, a2, a3, a4⟩ := h.arr i b n hi
    exact ⟨l, a1, a2, a3, by rw [hb.block b (Array.getElem?_eq_some_iff.1 a4).1]; exact a4⟩
theorem ty_ne {w : World} {b : Nat} {cs ds : Array Value} {t u : TypeId} (h1 : w.heap[b]? = some (.cells cs t)) (h2 : w.heap[b]? = some (.cells ds u)) : t = u := by
  rw [h1] at h2
  injection h2 with h2
  injection h2 with _ h2
theorem own_ty {w : World} {B e z n i : Nat} {v : Value} {l : List Value} (h : w.ownsRow B e z v n l) (hi : v.ownBlock = some i) : ∃ cs, w.heap[i]? = some (.cells cs e) := by
  rcases h.2 with ⟨hv, _⟩ | ⟨g, cap, cur, hv, hb, hg, _⟩
  · rw [hv] at hi; cases hi
  · rw [hv] at hi
    injection hi with hi
    subst hi
    exact ⟨cur, hg⟩
theorem Wm.neP {w0 : World} {P : Nat} {w : World} {r : Rr} {d : Nat} {way : Int} (h : Wm w0 P w r d way) {b : Nat} {cs : Array Value} {t : TypeId} (hb : w.heap[b]? = some (.cells cs t)) (ht : t ≠ 87) : b ≠ P := fun e => by
  subst e
  exact ht (ty_ne hb h.pb)
theorem Wm.setP {w0 : World} {P : Nat} {w : World} {r : Rr} {d : Nat} {way : Int} (h : Wm w0 P w r d way) {i : Nat} {v : Value} (r' : Rr) (d' : Nat) (way' : Int) (hpb : (wdC r d way).setIfInBounds i v = wdC r' d' way')
    (hab : r'.ab = r.ab) (hav : r'.av = r.av) (hhp : r'.s.hp = r.s.hp) (hov : r'.ov = r.ov) (hout : r'.s.out = r.s.out) (hin : InW w0 r'.iv r'.s.inp) (hf : -9223372036854775808 ≤ r'.s.fuel ∧ r'.s.fuel ≤ 10000000) (hd : d' ≤ 40) :
    Wm w0 P (w.setCell ⟨P, i, none⟩ v) r' d' way' ∧ Wz P NoE w r (w.setCell ⟨P, i, none⟩ v) r' := by
  have hoth : ∀ b, b ≠ P → (w.setCell ⟨P, i, none⟩ v).heap[b]? = w.heap[b]? := fun b hb => heap_setCell_other _ _ _ _ hb
  have hsz : (w.setCell ⟨P, i, none⟩ v).heap.size = w.heap.size := by simp
  have hX : ∀ b, Xw P r' b ↔ Xw P r b := fun b => by unfold Xw; rw [hab, hov, hav]
  refine ⟨⟨h.lo0, by rw [hsz]; exact h.le, fun b h1 => by rw [hoth b (by have := h.lo0; omega)]; exact h.kp b h1, ?_, hin, ?_, ?_, ?_, by rw [hab, hhp]; exact h.alen, ?_, by rw [hab]; exact h.lo, by rw [hab]; exact h.nd, hf, by rw [hout]; exact h.told, hd⟩, ⟨rfl, rfl, rfl, by rw [hsz]; exact Nat.le_refl _, fun b _ hx _ => hoth b (fun e => hx (.inl e)), by rw [hab]; exact List.prefix_rfl, fun b h1 h2 => absurd ((hX b).1 h1) h2⟩⟩
  · rw [heap_setCell_same _ _ _ _ _ _ h.pb, hpb]
  · rw [hov, hout]
    refine own_at h.out (fun k hk => hoth k ?_)
    obtain ⟨cs, hc⟩ := own_ty h.out hk
    exact h.neP hc (by decide)
  · rw [hav, hab]
    refine own_at h.arrs (fun k hk => hoth k ?_)
    obtain ⟨cs, hc⟩ := own_ty h.arrs hk
    exact h.neP hc (by decide)
  · rw [hov, hab]; exact h.apart
  · intro k b n hk
    rw [hab] at hk
    obtain ⟨l, a1, a2, a3, a4⟩ := h.arr k b n hk
    refine ⟨l, by rw [hhp]; exact a1, a2, a3, ?_⟩
    rw [hoth b (h.neP a4 (by decide))]
    exact a4
def Rr.fuel1 (r : Rr) : Rr := { r with s := { r.s with fuel := r.s.fuel - 1 } }
structure Qx where
  w0 : World
  P : Nat
def Rr.take1 (r : Rr) (iv : Value) : Rr := { r with iv := iv, s := { r.s with inp := r.s.inp.tail } }
def Rr.tell1 (r : Rr) (ov : Value) (n : Int) : Rr := { r with ov := ov, s := { r.s with out := r.s.out ++ [n] } }
theorem Wm.newX {w0 : World} {P : Nat} {w : World} {r : Rr} {d : Nat} {way : Int} (h : Wm w0 P w r d way) {b : Nat} (hb : w.heap.size ≤ b) : ¬ Xw P r b := by
  intro hx
  rcases hx with rfl | hx | hx | hx
  · have := h.ltP; omega
  · obtain ⟨p, hp, rfl⟩ := List.mem_map.1 hx
    obtain ⟨j, hj⟩ := List.getElem?_of_mem hp
    obtain ⟨l, _, _, _, a4⟩ := h.arr j p.1 p.2 hj
    have := (Array.getElem?_eq_some_iff.1 a4).1
    omega
  · have := (h.out.lt b hx).2
    omega
  · have := (h.arrs.lt b hx).2
    omega
def Rr.new1 (r : Rr) (b n : Nat) (av : Value) : Rr := { r with ab := r.ab ++ [(b, n)], av := av, s := { r.s with hp := r.s.hp ++ [List.replicate n 0] } }
def arrN : Option Nat → Int
  | none => 0
  | some i => (i : Int) + 1
def QvR (r : Rr) : Option Nat → Prop
  | none => True
  | some i => i < r.ab.length
end Go.Proofs.YtjmbjpimabnohaaDoor.Mid
