/- Package mid: how steps are gone through (the model); functions, steps, places, labels in memory; fresh. -/
import Derived.Test.YtjmbjpimabnohaaDoorNB
namespace Go.Proofs.YtjmbjpimabnohaaDoor.Mid
set_option linter.unusedVariables false
set_option linter.unusedSimpArgs false
open Go Go.RowKit

/-- What lies in a place. -/
def pl (o : List Vl) (i : Int) : Vl := o.getD i.toNat (0, none)
/-- Which step a label is. -/
def labOf (l : List Ms) (x : Int) : Option Nat := l.findIdx? (fun s => s.code == 6 && s.label == x)
/-- The places of a call: args first, nothing in the others. -/
def theirs (F : Mf) (o : List Vl) (l : List Int) : List Vl := (l.map (pl o)) ++ List.replicate (F.types.length - l.length) (0, none)
/-- A function is gone through, from a step on, with so much gas (99: it was not enough); so many calls wait. -/
def goN (fs : By → Option Mf) : Nat → Nat → Mf → Nat → List Vl → Go1 Int
  | 0 => fun _ _ _ _ => gt 99
  | g + 1 => fun d F k o => gb pay fun _ =>
    match F.steps[k]? with
    | none => gt 98
    | some s =>
      if s.code = 8 then gp (pl o s.a).1
      else if s.code = 4 then goN fs g d F ((labOf F.steps s.label).getD 0 + 1) o
      else if s.code = 5 then (if (pl o s.a).1 = 0 then goN fs g d F ((labOf F.steps s.label).getD 0 + 1) o else goN fs g d F (k + 1) o)
      else if s.code = 13 then gb (tellG (pl o s.a).1) fun _ => goN fs g d F (k + 1) o
      else if s.code = 12 then gb (putG (pl o s.a).2 (pl o s.b).1 (pl o s.c).1) fun _ => goN fs g d F (k + 1) o
      else if s.code = 6 then goN fs g d F (k + 1) o
      else gb (if s.code = 1 then gp (s.n, none)
        else if s.code = 3 then gb (bothG s.op (pl o s.a).1 (pl o s.b).1) fun n => gp (n, none)
        else if s.code = 7 then (match fs s.name with
          | none => gt 98
          | some G => if 40 ≤ d then gt 5 else gb (goN fs g (d + 1) G 0 (theirs G o s.args)) fun n => gp (n, none))
        else if s.code = 9 then newG (pl o s.a).1
        else if s.code = 10 then gb (lenG (pl o s.a).2) fun n => gp (n, none)
        else if s.code = 11 then gb (itemG (pl o s.a).2 (pl o s.b).1) fun n => gp (n, none)
        else if s.code = 14 then gb takeG fun n => gp (n, none)
        else gp (pl o s.a)) fun v => goN fs g d F (k + 1) (o.set s.dst.toNat v)
/-- What a step writes into its place. -/
def reckG (fs : By → Option Mf) (g d : Nat) (s : Ms) (o : List Vl) : Go1 Vl :=
  if s.code = 1 then gp (s.n, none)
  else if s.code = 3 then gb (bothG s.op (pl o s.a).1 (pl o s.b).1) fun n => gp (n, none)
  else if s.code = 7 then (match fs s.name with
    | none => gt 98
    | some G => if 40 ≤ d then gt 5 else gb (goN fs g (d + 1) G 0 (theirs G o s.args)) fun n => gp (n, none))
  else if s.code = 9 then newG (pl o s.a).1
  else if s.code = 10 then gb (lenG (pl o s.a).2) fun n => gp (n, none)
  else if s.code = 11 then gb (itemG (pl o s.a).2 (pl o s.b).1) fun n => gp (n, none)
  else if s.code = 14 then gb takeG fun n => gp (n, none)
  else gp (pl o s.a)
theorem goN_0 (fs : By → Option Mf) (d : Nat) (F : Mf) (k : Nat) (o : List Vl) (s : Sg) : goN fs 0 d F k o s = .error (99, s.out) := rfl
theorem goN_1 (fs : By → Option Mf) (g d : Nat) (F : Mf) (k : Nat) (o : List Vl) : goN fs (g + 1) d F k o = gb pay fun _ =>
    match F.steps[k]? with
    | none => gt 98
    | some s =>
      if s.code = 8 then gp (pl o s.a).1
      else if s.code = 4 then goN fs g d F ((labOf F.steps s.label).getD 0 + 1) o
      else if s.code = 5 then (if (pl o s.a).1 = 0 then goN fs g d F ((labOf F.steps s.label).getD 0 + 1) o else goN fs g d F (k + 1) o)
      else if s.code = 13 then gb (tellG (pl o s.a).1) fun _ => goN fs g d F (k + 1) o
      else if s.code = 12 then gb (putG (pl o s.a).2 (pl o s.b).1 (pl o s.c).1) fun _ => goN fs g d F (k + 1) o
      else if s.code = 6 then goN fs g d F (k + 1) o
      else gb (reckG fs g d s o) fun v => goN fs g d F (k + 1) (o.set s.dst.toNat v) := rfl

abbrev I64 (x : Int) : Prop := -9223372036854775808 ≤ x ∧ x ≤ 9223372036854775807
/-- Numbers in a row that is only read. -/
def IntsAt (w : World) (v : Value) (l : List Int) : Prop :=
  ∃ q c, v = .slice q l.length c ∧ l.length ≤ 1000000 ∧ (∀ x ∈ l, I64 x) ∧ (l = [] ∨ ∃ g o, q = some ⟨g, o, none⟩ ∧ ∀ j x, l[j]? = some x → w.cell? ⟨g, o + j, none⟩ = some (.int .i64 x))
/-- A step in memory. -/
structure StepAt (w : World) (b o : Nat) (s : Ms) : Prop where
  c0 : w.cell? ⟨b, o, none⟩ = some (.int .i64 s.code)
  c1 : w.cell? ⟨b, o + 1, none⟩ = some (.int .i64 s.dst)
  c2 : w.cell? ⟨b, o + 2, none⟩ = some (.int .i64 s.a)
  c3 : w.cell? ⟨b, o + 3, none⟩ = some (.int .i64 s.b)
  c4 : w.cell? ⟨b, o + 4, none⟩ = some (.int .i64 s.c)
  c5 : w.cell? ⟨b, o + 5, none⟩ = some (.int .i64 s.n)
  c6 : w.cell? ⟨b, o + 6, none⟩ = some (.string ⟨s.op.toArray⟩)
  c7 : w.cell? ⟨b, o + 7, none⟩ = some (.int .i64 s.label)
  c8 : w.cell? ⟨b, o + 8, none⟩ = some (.string ⟨s.name.toArray⟩)
  c9 : ∃ v, w.cell? ⟨b, o + 9, none⟩ = some v ∧ IntsAt w v s.args
  i1 : I64 s.code ∧ I64 s.dst ∧ I64 s.a ∧ I64 s.b ∧ I64 s.c ∧ I64 s.n ∧ I64 s.label
  i2 : s.op.length ≤ 1000000 ∧ s.name.length ≤ 9223372036854775807
/-- A function in memory. -/
structure FnAt (w : World) (b o : Nat) (f : Mf) : Prop where
  c0 : w.cell? ⟨b, o, none⟩ = some (.string ⟨f.name.toArray⟩)
  c1 : w.cell? ⟨b, o + 1, none⟩ = some (.int .i64 f.params)
  c2 : ∃ v, w.cell? ⟨b, o + 2, none⟩ = some v ∧ IntsAt w v f.types
  c3 : ∃ q c, w.cell? ⟨b, o + 3, none⟩ = some (.slice q f.steps.length c) ∧ f.steps.length ≤ c ∧ (f.steps = [] ∨ ∃ g p, q = some ⟨g, p, none⟩ ∧ ∀ j s, f.steps[j]? = some s → StepAt w g (p + j * 10) s)
  i1 : I64 f.params
  i2 : f.name.length ≤ 9223372036854775807 ∧ f.types.length ≤ 1000000 ∧ f.steps.length ≤ 1000000
/-- Places of a call in memory. -/
def OwM (w : World) (ob : Nat) (ab : List (Nat × Nat)) (o : List Vl) : Prop :=
  ∃ cs : List Value, w.heap[ob]? = some (.cells cs.toArray 102) ∧ cs.length = o.length * 2 ∧ ∀ i x, o[i]? = some x → ∃ q, cs[i * 2]? = some (.int .i64 x.1) ∧ cs[i * 2 + 1]? = some q ∧ QvS ab x.2 q
theorem OwM.get {w : World} {ob : Nat} {ab : List (Nat × Nat)} {o : List Vl} (h : OwM w ob ab o) {i : Int} (h0 : 0 ≤ i) (h1 : i < o.length) :
    ∃ q, w.cell? ⟨ob, i.toNat * 2, none⟩ = some (.int .i64 (pl o i).1) ∧ w.cell? ⟨ob, i.toNat * 2 + 1, none⟩ = some q ∧ QvS ab (pl o i).2 q := by
  obtain ⟨cs, hc, hl, hv⟩ := h
  have hi : i.toNat < o.length := by omega
  have e : o[i.toNat]? = some (pl o i) := by unfold pl; rw [List.getElem?_eq_getElem hi, List.getD_eq_getElem?_getD, List.getElem?_eq_getElem hi]; rfl
  obtain ⟨q, a1, a2, a3⟩ := hv _ _ e
  exact ⟨q, cell_at hc (by simpa using a1), cell_at hc (by simpa using a2), a3⟩
theorem OwM.mono {w w' : World} {ob : Nat} {a b : List (Nat × Nat)} {o : List Vl} (h : OwM w ob a o) (hk : w'.heap[ob]? = w.heap[ob]?) (hp : a <+: b) : OwM w' ob b o := by
  obtain ⟨cs, hc, hl, hv⟩ := h
  refine ⟨cs, by rw [hk]; exact hc, hl, fun i x hx => ?_⟩
  obtain ⟨q, a1, a2, a3⟩ := hv i x hx
  exact ⟨q, a1, a2, a3.mono hp⟩
theorem OwM.lt {w : World} {ob : Nat} {a : List (Nat × Nat)} {o : List Vl} (h : OwM w ob a o) : ob < w.heap.size := by
  obtain ⟨cs, hc, _⟩ := h
  exact (Array.getElem?_eq_some_iff.1 hc).1
/-- Places and what is written by the program apart. -/
theorem OwM.notX {w0 : World} {P : Nat} {fv : Value} {w : World} {r : Rs} {d ob : Nat} {a : List (Nat × Nat)} {o : List Vl} (h : OwM w ob a o) (hs : Sm w0 P fv w r d) : ¬ Xs P r ob := by
  obtain ⟨cs, hc, _⟩ := h
  rintro (rfl | hx | hx)
  · have := hs.pb; rw [hc] at this; injection this with this; injection this with _ e; cases e
  · obtain ⟨p, hp, rfl⟩ := List.mem_map.1 hx
    obtain ⟨i, hi⟩ := List.getElem?_of_mem hp
    obtain ⟨l, _, _, _, a4⟩ := hs.arr i p.1 p.2 hi
    rw [hc] at a4; injection a4 with a4; injection a4 with _ e; cases e
  · rcases hs.out.2 with ⟨hv, _⟩ | ⟨g, cap, cur, hv, hb, hg, _⟩
    · rw [hv] at hx; cases hx
    · rw [hv] at hx
      have : g = ob := by injection hx
      subst this
      rw [hg] at hc; injection hc with hc; injection hc with _ e; cases e
/-- A cell that stands since all was made ready. -/
theorem Sm.cell {w0 : World} {P : Nat} {fv : Value} {w : World} {r : Rs} {d : Nat} (h : Sm w0 P fv w r d) {b o : Nat} {v : Value} (hb : b ≠ P) (hc : w0.cell? ⟨b, o, none⟩ = some v) : w.cell? ⟨b, o, none⟩ = some v := by
  rw [← hc]
  refine World.cell?_of_block (a := ⟨b, o, none⟩) (h.kp b ?_ hb)
  rcases Nat.lt_or_ge b w0.heap.size with h | h
  · exact h
  · unfold World.cell? at hc
    simp [Array.getElem?_eq_none h] at hc
end Go.Proofs.YtjmbjpimabnohaaDoor.Mid
