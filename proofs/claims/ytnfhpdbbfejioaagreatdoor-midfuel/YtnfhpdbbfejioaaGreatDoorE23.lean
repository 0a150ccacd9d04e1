/- NC LA ND NE -/
import Derived.Test.YtnfhpdbbfejioaaGreatDoorE22
namespace Go.Proofs.YtnfhpdbbfejioaaGreatDoor.Mid
set_option linter.unusedVariables false
set_option linter.unusedSimpArgs false
set_option maxRecDepth 100000
set_option maxHeartbeats 16000000
open Go Go.RowKit
def pl (o : List Vl) (i : Int) : Vl := o.getD i.toNat (0, none)
def zJ (l : List Ms) (x : Int) : Option Nat := l.findIdx? (fun s => s.code == 6 && s.label == x)
def theirs (F : Mf) (o : List Vl) (l : List Int) : List Vl := (l.map (pl o)) ++ List.replicate (F.types.length - l.length) (0, none)
def goN (fs : By → Option Mf) : Nat → Nat → Mf → Nat → List Vl → Go1 Int
  | 0 => fun _ _ _ _ => gt 99
  | g + 1 => fun d F k o => gb pay fun _ =>
    match F.steps[k]? with
    | none => gt 98
    | some s =>
      if s.code = 8 then gp (pl o s.a).1
      else if s.code = 4 then goN fs g d F ((zJ F.steps s.label).getD 0 + 1) o
      else if s.code = 5 then (if (pl o s.a).1 = 0 then goN fs g d F ((zJ F.steps s.label).getD 0 + 1) o else goN fs g d F (k + 1) o)
      else if s.code = 13 then gb (tellG (pl o s.a).1) fun _ => goN fs g d F (k + 1) o
      else if s.code = 12 then gb (putG (pl o s.a).2 (pl o s.b).1 (pl o s.c).1) fun _ => goN fs g d F (k + 1) o
      else if s.code = 6 then goN fs g d F (k + 1) o
      else gb (if s.code = 1 then gp (s.n, none)
        else if s.code = 3 then gb (bothG s.op (pl o s.a).1 (pl o s.b).1) fun n => gp (n, none)
        else if s.code = 7 then (match fs s.name with
          | none => gt 98
          | some G => if 40 ≤ d then gt 5 else gb (goN fs g (d + 1) G 0 (theirs G o s.args)) fun n => gp (n, none))
        else if s.code = 9 then newG (pl o s.a).1
        else if s.code = 10 then gb (lenG (pl o s.a).2) fun n => gp (n, none)
        else if s.code = 11 then gb (itemG (pl o s.a).2 (pl o s.b).1) fun n => gp (n, none)
        else if s.code = 14 then gb takeG fun n => gp (n, none)
        else gp (pl o s.a)) fun v => goN fs g d F (k + 1) (o.set s.dst.toNat v)
def zp (fs : By → Option Mf) (g d : Nat) (s : Ms) (o : List Vl) : Go1 Vl :=
  if s.code = 1 then gp (s.n, none)
  else if s.code = 3 then gb (bothG s.op (pl o s.a).1 (pl o s.b).1) fun n => gp (n, none)
  else if s.code = 7 then (match fs s.name with
    | none => gt 98
    | some G => if 40 ≤ d then gt 5 else gb (goN fs g (d + 1) G 0 (theirs G o s.args)) fun n => gp (n, none))
  else if s.code = 9 then newG (pl o s.a).1
  else if s.code = 10 then gb (lenG (pl o s.a).2) fun n => gp (n, none)
  else if s.code = 11 then gb (itemG (pl o s.a).2 (pl o s.b).1) fun n => gp (n, none)
  else if s.code = 14 then gb takeG fun n => gp (n, none)
  else gp (pl o s.a)
theorem goN_0 (fs : By → Option Mf) (d : Nat) (F : Mf) (k : Nat) (o : List Vl) (s : Sg) : goN fs 0 d F k o s = .error (99, s.out) := rfl
theorem goN_1 (fs : By → Option Mf) (g d : Nat) (F : Mf) (k : Nat) (o : List Vl) : goN fs (g + 1) d F k o = gb pay fun _ =>
    match F.steps[k]? with
    | none => gt 98
    | some s =>
      if s.code = 8 then gp (pl o s.a).1
      else if s.code = 4 then goN fs g d F ((zJ F.steps s.label).getD 0 + 1) o
      else if s.code = 5 then (if (pl o s.a).1 = 0 then goN fs g d F ((zJ F.steps s.label).getD 0 + 1) o else goN fs g d F (k + 1) o)
      else if s.code = 13 then gb (tellG (pl o s.a).1) fun _ => goN fs g d F (k + 1) o
      else if s.code = 12 then gb (putG (pl o s.a).2 (pl o s.b).1 (pl o s.c).1) fun _ => goN fs g d F (k + 1) o
      else if s.code = 6 then goN fs g d F (k + 1) o
      else gb (zp fs g d s o) fun v => goN fs g d F (k + 1) (o.set s.dst.toNat v) := rfl
abbrev I64 (x : Int) : Prop := -9223372036854775808 ≤ x ∧ x ≤ 9223372036854775807
def IntsAt (w : World) (v : Value) (l : List Int) : Prop :=
  ∃ q c, v = .slice q l.length c ∧ l.length ≤ 1000000 ∧ (∀ x ∈ l, I64 x) ∧ (l = [] ∨ ∃ g o, q = some ⟨g, o, none⟩ ∧ ∀ j x, l[j]? = some x → w.cell? ⟨g, o + j, none⟩ = some (.int .i64 x))
structure StepAt (w : World) (b o : Nat) (s : Ms) : Prop where
  c0 : w.cell? ⟨b, o, none⟩ = some (.int .i64 s.code)
  c1 : w.cell? ⟨b, o + 1, none⟩ = some (.int .i64 s.dst)
  c2 : w.cell? ⟨b, o + 2, none⟩ = some (.int .i64 s.a)
  c3 : w.cell? ⟨b, o + 3, none⟩ = some (.int .i64 s.b)
  c4 : w.cell? ⟨b, o + 4, none⟩ = some (.int .i64 s.c)
  c5 : w.cell? ⟨b, o + 5, none⟩ = some (.int .i64 s.n)
  c6 : w.cell? ⟨b, o + 6, none⟩ = some (.string ⟨s.op.toArray⟩)
  c7 : w.cell? ⟨b, o + 7, none⟩ = some (.int .i64 s.label)
  c8 : w.cell? ⟨b, o + 8, none⟩ = some (.string ⟨s.name.toArray⟩)
  c9 : ∃ v, w.cell? ⟨b, o + 9, none⟩ = some v ∧ IntsAt w v s.args
  i1 : I64 s.code ∧ I64 s.dst ∧ I64 s.a ∧ I64 s.b ∧ I64 s.c ∧ I64 s.n ∧ I64 s.label
  i2 : s.op.length ≤ 1000000 ∧ s.name.length ≤ 9223372036854775807
structure FnAt (w : World) (b o : Nat) (f : Mf) : Prop where
  c0 : w.cell? ⟨b, o, none⟩ = some (.string ⟨f.name.toArray⟩)
  c1 : w.cell? ⟨b, o + 1, none⟩ = some (.int .i64 f.params)
  c2 : ∃ v, w.cell? ⟨b, o + 2, none⟩ = some v ∧ IntsAt w v f.types
  c3 : ∃ q c, w.cell? ⟨b, o + 3, none⟩ = some (.slice q f.steps.length c) ∧ f.steps.length ≤ c ∧ (f.steps = [] ∨ ∃ g p, q = some ⟨g, p, none⟩ ∧ ∀ j s, f.steps[j]? = some s → StepAt w g (p + j * 10) s)
  i1 : I64 f.params
  i2 : f.name.length ≤ 9223372036854775807 ∧ f.types.length ≤ 1000000 ∧ f.steps.length ≤ 1000000
def OwM (w : World) (ob : Nat) (ab : List (Nat × Nat)) (o : List Vl) : Prop :=
  ∃ cs : List Value, w.heap[ob]? = some (.cells cs.toArray 179) ∧ cs.length = o.length * 2 ∧ ∀ i x, o[i]? = some x → ∃ q, cs[i * 2]? = some (.int .i64 x.1) ∧ cs[i * 2 + 1]? = some q ∧ QvS ab x.2 q
theorem OwM.get {w : World} {ob : Nat} {ab : List (Nat × Nat)} {o : List Vl} (h : OwM w ob ab o) {i : Int} (h0 : 0 ≤ i) (h1 : i < o.length) :
    ∃ q, w.cell? ⟨ob, i.toNat * 2, none⟩ = some (.int .i64 (pl o i).1) ∧ w.cell? ⟨ob, i.toNat * 2 + 1, none⟩ = some q ∧ QvS ab (pl o i).2 q := by
  obtain ⟨cs, hc, hl, hv⟩ := h
  have hi : i.toNat < o.length := by omega
  have e : o[i.toNat]? = some (pl o i) := by unfold pl; rw [List.getElem?_eq_getElem hi, List.getD_eq_getElem?_getD, List.getElem?_eq_getElem hi]; rfl
  obtain ⟨q, a1, a2, a3⟩ := hv _ _ e
  exact ⟨q, z_ hc (by simpa using a1), z_ hc (by simpa using a2), a3⟩
theorem OwM.mono {w w' : World} {ob : Nat} {a b : List (Nat × Nat)} {o : List Vl} (h : OwM w ob a o) (hk : w'.heap[ob]? = w.heap[ob]?) (hp : a <+: b) : OwM w' ob b o := by
  obtain ⟨cs, hc, hl, hv⟩ := h
  refine ⟨cs, by rw [hk]; exact hc, hl, fun i x hx => ?_⟩
  obtain ⟨q, a1, a2, a3⟩ := hv i x hx
  exact ⟨q, a1, a2, a3.mono hp⟩
theorem OwM.lt {w : World} {ob : Nat} {a : List (Nat × Nat)} {o : List Vl} (h : OwM w ob a o) : ob < w.heap.size := by
  obtain ⟨cs, hc, _⟩ := h
  exact (Array.getElem?_eq_some_iff.1 hc).1
theorem OwM.notX {w0 : World} {P : Nat} {fv : Value} {w : World} {r : Rs} {d ob : Nat} {a : List (Nat × Nat)} {o : List Vl} (h : OwM w ob a o) (hs : Sm w0 P fv w r d) : ¬ Xs P r ob := by
  obtain ⟨cs, hc, _⟩ := h
  rintro (rfl | hx | hx)
  · have := hs.pb; rw [hc] at this; injection this with this; injection this with _ e; cases e
  · obtain ⟨p, hp, rfl⟩ := List.mem_map.1 hx
    obtain ⟨i, hi⟩ := List.getElem?_of_mem hp
    obtain ⟨l, _, _, _, a4⟩ := hs.arr i p.1 p.2 hi
    rw [hc] at a4; injection a4 with a4; injection a4 with _ e; cases e
  · rcases hs.out.2 with ⟨hv, _⟩ | ⟨g, cap, cur, hv, hb, hg, _⟩
    · rw [hv] at hx; cases hx
    · rw [hv] at hx
      have : g = ob := by injection hx
      subst this
      rw [hg] at hc; injection hc with hc; injection hc with _ e; cases e
theorem Sm.cell {w0 : World} {P : Nat} {fv : Value} {w : World} {r : Rs} {d : Nat} (h : Sm w0 P fv w r d) {b o : Nat} {v : Value} (hb : b ≠ P) (hc : w0.cell? ⟨b, o, none⟩ = some v) : w.cell? ⟨b, o, none⟩ = some v := by
  rw [← hc]
  refine World.cell?_of_block (a := ⟨b, o, none⟩) (h.kp b ?_ hb)
  rcases Nat.lt_or_ge b w0.heap.size with h | h
  · exact h
  · unfold World.cell? at hc
    simp [Array.getElem?_eq_none h] at hc
structure Wr where
  ts : List Int
  ss : List Ms
  nm : List (By × Nat)
  sp1 : List Nat
  sp2 : List Nat
  u1 : Nat
  u2 : Nat
  no : Option Nat
  lb : Nat
abbrev Lm (α : Type) := Wr → Option (α × Wr)
def lp {α : Type} (a : α) : Lm α := fun w => some (a, w)
def lb {α β : Type} (x : Lm α) (f : α → Lm β) : Lm β := fun w =>
  match x w with
  | none => none
  | some (a, w1) => f a w1
def ln {α : Type} : Lm α := fun _ => none
def ms0 : Ms := ⟨0, 0, 0, 0, 0, 0, [], 0, [], []⟩
def okI (x : Int) : Bool := decide (-9223372036854775808 ≤ x) && decide (x ≤ 9223372036854775807)
def okS (s : Ms) : Bool := okI s.code && okI s.dst && okI s.a && okI s.b && okI s.c && okI s.n && okI s.label && decide (s.op.length ≤ 1000) && decide (s.name.length ≤ 1000) && decide (s.args.length ≤ 100000) && s.args.all okI
def qU (s : Ms) : Lm Unit := fun w => if decide (w.ss.length < 100000) && okS s then some ((), { w with ss := w.ss ++ [s] }) else none
def placeL (k : Int) : Lm Nat := fun w => if decide (w.ts.length < 100000) && okI k then some (w.ts.length, { w with ts := w.ts ++ [k] }) else none
def take1 : Lm Nat := fun w =>
  if w.u1 = w.sp1.length then (if w.ts.length < 100000 then some (w.ts.length, { w with ts := w.ts ++ [1], sp1 := w.sp1 ++ [w.ts.length], u1 := w.u1 + 1 }) else none)
  else match w.sp1[w.u1]? with
    | some p => some (p, { w with u1 := w.u1 + 1 })
    | none => none
def take2 : Lm Nat := fun w =>
  if w.u2 = w.sp2.length then (if w.ts.length < 100000 then some (w.ts.length, { w with ts := w.ts ++ [2], sp2 := w.sp2 ++ [w.ts.length], u2 := w.u2 + 1 }) else none)
  else match w.sp2[w.u2]? with
    | some p => some (p, { w with u2 := w.u2 + 1 })
    | none => none
def takeL (k : Int) : Lm Nat := if k = 2 then take2 else if k = 1 then take1 else ln
def setU (a b : Nat) : Lm Unit := fun w => some ((), { w with u1 := a, u2 := b })
def zeroL : Lm Nat := fun w =>
  match w.no with
  | some p => some (p, w)
  | none => if w.ts.length < 100000 then some (w.ts.length, { w with ts := w.ts ++ [1], no := some w.ts.length }) else none
def qR : Lm Nat := fun w => if w.lb < 100000 then some (w.lb + 1, { w with lb := w.lb + 1 }) else none
def nmG (l : List (By × Nat)) (x : By) : Nat := (l.lookup x).getD 0
def nameL (x : By) : Lm Nat := fun w => if x.length ≤ 1000 then some (nmG w.nm x, w) else none
def bindL (x : By) (p : Nat) : Lm Unit := fun w => if w.nm.length < 100000 ∧ x.length ≤ 1000 ∧ p < 100000 then some ((), { w with nm := (x, p) :: w.nm }) else none
def kindL (c : Int) (x : By) : Lm Int := fun w => if c = 2 then (if x.length ≤ 1000 then (match w.ts[nmG w.nm x]? with | some k => some (k, w) | none => none) else none) else some (if c = 6 then 2 else 1, w)
def finL (s : Ms) (p : Nat) : Lm Nat := if s.code = 2 ∧ s.a = (p : Int) then lp p else lb (qU { s with dst := (p : Int) }) fun _ => lp p
def putL (l : Nat) : Lm Unit := qU { ms0 with code := 6, label := l }
def argsL (V : Tr → Lm Nat) : List Tr → Lm (List Int)
  | [] => lp []
  | x :: xs => lb (V x) fun p => lb (argsL V xs) fun ps => lp ((p : Int) :: ps)
def unc : Tr → List Tr
  | .slice [x] [g] => x :: unc g
  | _ => []
structure Lf where
  V : Tr → Lm Nat
  L : Tr → Lm Ms
  U : Tr → Nat → Lm Unit
  W : Tr → Nat → Lm Unit
def truthL (U : Tr → Nat → Lm Unit) (t : Tr) : Lm Ms := lb take1 fun p => lb qR fun e => lb (qU { ms0 with code := 1, dst := p }) fun _ => lb (U t e) fun _ => lb (qU { ms0 with code := 1, dst := p, n := 1 }) fun _ => lb (putL e) fun _ => lp { ms0 with code := 2, a := p }
def twoL (F : Lf) (t : Tr) (op : By) (l r : Tr) : Lm Ms := if op = [38, 38] ∨ op = [124, 124] then truthL F.U t else lb (F.V l) fun x => lb (F.V r) fun y => lp { ms0 with code := 3, op := op, a := x, b := y }
def oneL (F : Lf) (op : By) (l : Tr) : Lm Ms := lb (F.V l) fun x => lb zeroL fun z => lp (if op = [45] then { ms0 with code := 3, op := [45], a := z, b := x } else { ms0 with code := 3, op := [61, 61], a := x, b := z })
def valL (F : Lf) : Tr → Lm Nat
  | .agg [.lit (.int k1 c), .lit (.int k2 a), .lit (.int k3 n), .lit (.string nm), .lit (.string op), l, r, xs] =>
    if c = 2 then nameL nm
    else fun w => (lb (F.L (.agg [.lit (.int k1 c), .lit (.int k2 a), .lit (.int k3 n), .lit (.string nm), .lit (.string op), l, r, xs])) fun s => lb (setU w.u1 w.u2) fun _ => lb (kindL c nm) fun k => lb (takeL k) fun p => finL s p) w
  | _ => ln
def lasL (F : Lf) : Tr → Lm Ms
  | .agg [.lit (.int k1 c), .lit (.int k2 a), .lit (.int k3 n), .lit (.string nm), .lit (.string op), l, r, xs] =>
    if c = 2 then lb (nameL nm) fun p => lp { ms0 with code := 2, a := p }
    else if c = 3 then twoL F (.agg [.lit (.int k1 c), .lit (.int k2 a), .lit (.int k3 n), .lit (.string nm), .lit (.string op), l, r, xs]) op l r
    else if c = 4 then oneL F op l
    else if c = 5 then lb (argsL F.V (unc xs)) fun ps => lp { ms0 with code := 7, name := nm, args := ps }
    else if c = 6 then lb (F.V l) fun x => lp { ms0 with code := 9, a := x }
    else if c = 7 then lb (F.V l) fun x => lp { ms0 with code := 10, a := x }
    else if c = 8 then lb (F.V l) fun x => lb (F.V r) fun y => lp { ms0 with code := 11, a := x, b := y }
    else if c = 9 then lp { ms0 with code := 14 }
    else lp { ms0 with code := 1, n := n }
  | _ => ln
def unlL (F : Lf) : Tr → Nat → Lm Unit
  | .agg [.lit (.int k1 c), .lit (.int k2 a), .lit (.int k3 n), .lit (.string nm), .lit (.string op), l, r, xs], e => fun w =>
    (lb (if c = 4 ∧ op = [33] then F.W l e
      else if c = 3 ∧ op = [38, 38] then lb (F.U l e) fun _ => F.U r e
      else if c = 3 ∧ op = [124, 124] then lb qR fun on => lb (F.W l on) fun _ => lb (F.U r e) fun _ => putL on
      else lb (F.V (.agg [.lit (.int k1 c), .lit (.int k2 a), .lit (.int k3 n), .lit (.string nm), .lit (.string op), l, r, xs])) fun p => qU { ms0 with code := 5, a := p, label := e }) fun _ => setU w.u1 w.u2) w
  | _, _ => ln
def whnL (F : Lf) : Tr → Nat → Lm Unit
  | .agg [.lit (.int k1 c), .lit (.int k2 a), .lit (.int k3 n), .lit (.string nm), .lit (.string op), l, r, xs], e => fun w =>
    (lb (if c = 4 ∧ op = [33] then F.U l e
      else if c = 3 ∧ op = [124, 124] then lb (F.W l e) fun _ => F.W r e
      else if c = 3 ∧ op = [38, 38] then lb qR fun on => lb (F.U l on) fun _ => lb (F.W r e) fun _ => putL on
      else lb (F.V (.agg [.lit (.int k1 c), .lit (.int k2 a), .lit (.int k3 n), .lit (.string nm), .lit (.string op), l, r, xs])) fun p => lb (setU w.u1 w.u2) fun _ => lb take1 fun q => lb zeroL fun z => lb (qU { ms0 with code := 3, op := [61, 61], dst := q, a := p, b := z }) fun _ => qU { ms0 with code := 5, a := q, label := e }) fun _ => setU w.u1 w.u2) w
  | _, _ => ln
def lwF : Nat → Lf
  | 0 => ⟨fun _ => ln, fun _ => ln, fun _ _ => ln, fun _ _ => ln⟩
  | g + 1 => ⟨valL (lwF g), lasL (lwF g), unlL (lwF g), whnL (lwF g)⟩
def blkL (S : Tr → Lm Unit) : List Tr → Lm Unit
  | [] => lp ()
  | x :: xs => lb (S x) fun _ => lb (setU 0 0) fun _ => blkL S xs
def kindT : Tr → Lm Int
  | .agg [.lit (.int k1 c), .lit (.int k2 a), .lit (.int k3 n), .lit (.string nm), .lit (.string op), l, r, xs] => kindL c nm
  | _ => ln
def intoL (F : Lf) (p : Nat) (t : Tr) : Lm Nat := lb (F.L t) fun s => finL s p
def choiceL (F : Lf) (S : Tr → Lm Unit) (v : Tr) (th el : List Tr) : Lm Unit := lb qR fun o => lb (F.U v o) fun _ => lb (blkL S th) fun _ =>
  if el = [] then putL o else lb qR fun e => lb (qU { ms0 with code := 4, label := e }) fun _ => lb (putL o) fun _ => lb (blkL S el) fun _ => putL e
def loopL (F : Lf) (S : Tr → Lm Unit) (v : Tr) (th : List Tr) : Lm Unit := lb qR fun a => lb qR fun e => lb (putL a) fun _ => lb (F.U v e) fun _ => lb (blkL S th) fun _ => lb (qU { ms0 with code := 4, label := a }) fun _ => putL e
def stmL (F : Lf) (S : Tr → Lm Unit) : Tr → Lm Unit
  | .agg [.lit (.int k1 c), .lit (.int k2 a), .lit (.string nm), ix, v, th, el] =>
    if c = 1 then lb (kindT v) fun k => lb (placeL k) fun p => lb (intoL F p v) fun _ => bindL nm p
    else if c = 2 then lb (nameL nm) fun p => lb (intoL F p v) fun _ => lp ()
    else if c = 3 then lb (F.V ix) fun i => lb (F.V v) fun x => lb (nameL nm) fun p => qU { ms0 with code := 12, a := p, b := i, c := x }
    else if c = 4 then choiceL F S v (unc th) (unc el)
    else if c = 5 then loopL F S v (unc th)
    else if c = 6 then lb (F.V v) fun p => qU { ms0 with code := 8, a := p }
    else if c = 7 then lb (F.V v) fun p => qU { ms0 with code := 13, a := p }
    else if c = 8 then lb (F.V v) fun _ => lp ()
    else lp ()
  | _ => ln
def lwS (F : Lf) : Nat → Tr → Lm Unit
  | 0 => fun _ => ln
  | g + 1 => stmL F (lwS F g)
def paramsL : List (By × Int) → Lm Unit
  | [] => lp ()
  | p :: ps => lb (placeL p.2) fun k => lb (bindL p.1 k) fun _ => paramsL ps
def endsL (l : List Ms) : Bool := match l.getLast? with | some s => s.code == 8 | none => false
def endL : Lm Unit := fun w => if endsL w.ss then some ((), w) else (lb zeroL fun z => qU { ms0 with code := 8, a := z }) w
def wr0 : Wr := ⟨[], [], [], [], [], 0, 0, none, 0⟩
theorem zg {α β : Type} {x : Lm α} {f : α → Lm β} {w w2 : Wr} {b : β} (h : lb x f w = some (b, w2)) : ∃ a w1, x w = some (a, w1) ∧ f a w1 = some (b, w2) := by
  unfold lb at h
  cases hx : x w with
  | none => rw [hx] at h; cases h
  | some r => obtain ⟨a, w1⟩ := r; rw [hx] at h; exact ⟨a, w1, rfl, h⟩
structure Mx extends Cx where
  wc : World
  fs : By → Option Mf
structure MxOk (X : Mx) : Prop where
  size : X.wc.heap.size ≤ X.P
  keep : ∀ b, b < X.wc.heap.size → X.w0.heap[b]? = X.wc.heap[b]?
theorem zz {w : World} {b o : Nat} {v : Value} (h : w.cell? ⟨b, o, none⟩ = some v) : b < w.heap.size := by
  rcases Nat.lt_or_ge b w.heap.size with h' | h'
  · exact h'
  · unfold World.cell? at h
    simp [Array.getElem?_eq_none h'] at h
theorem MxOk.cell {X : Mx} (h : MxOk X) {w : World} {r : Rs} {d : Nat} (hs : Sm X.w0 X.P X.fv w r d) {b o : Nat} {v : Value} (hc : X.wc.cell? ⟨b, o, none⟩ = some v) : w.cell? ⟨b, o, none⟩ = some v := by
  have hb := zz hc
  have := h.size
  refine hs.cell (by omega) ?_
  rw [← hc]
  exact World.cell?_of_block (a := ⟨b, o, none⟩) (h.keep b hb)
theorem zk {w : World} {b o : Nat} {v : Value} {A : Obj} (h : w.cell? ⟨b, o, none⟩ = some v) : (w.alloc A).cell? ⟨b, o, none⟩ = some v := by
  rw [← h]
  exact World.cell?_of_block (a := ⟨b, o, none⟩) (zc (zz h))
def RkP (X : Mx) (w : World) (r : Rs) (d : Nat) (x : Except (Int × List Int) (Vl × Sg)) (e : Ending) (w' : World) : Prop :=
  ∃ r' d', Sm X.w0 X.P X.fv w' r' d' ∧ Fz X.P NoE w r w' r' ∧
    ((∃ y p l c, d' = d ∧ x = .ok (y, r'.s) ∧ e = .returned (vlA y.1 (.slice p l c)) ∧ QvS r'.ab y.2 (.slice p l c)) ∨ (∃ k, x = .error (k, r'.s.out) ∧ e = endE k))
abbrev rkA (X : Mx) (b o ob k : Nat) : Array Value := #[ptr X.P, .pointer (some ⟨b, o, none⟩), .slice (some ⟨ob, 0, none⟩) k k]
theorem rk_fin {X : Mx} {w : World} {r : Rs} {d : Nat} (h : Sm X.w0 X.P X.fv w r d) (n : Int) (A : Obj) : RkP X w r d (.ok ((n, none), r.s)) (.returned (vlA n (.slice none 0 0))) (w.alloc A) :=
  ⟨r, d, h.below ((Below.refl _ _).alloc (Nat.le_refl _) _), Fz.below ((Below.refl _ _).alloc (Nat.le_refl _) _), .inl ⟨(n, none), none, 0, 0, rfl, rfl, rfl, rfl⟩⟩
abbrev zv : Obj := .cells #[.int .i64 0, .slice none 0 0] 179
theorem rk_const {X : Mx} (hX : MxOk X) {s : Ms} {b o : Nat} (hst : StepAt X.wc b o s) (hc : s.code = 1) {g d ob : Nat} {w : World} {r : Rs} {own : List Vl} (hs : Sm X.w0 X.P X.fv w r d) :
    Calls Tryz.prog 82 (rkA X b o ob own.length) w (RkP X w r d (zp X.fs g d s own r.s)) := by
  have c0 := zk (A := zv) (hX.cell hs hst.c0)
  have c5 := zk (A := zv) (hX.cell hs hst.c5)
  rw [hc] at c0
  have HS : Hid (Sm X.w0 X.P X.fv w r d) := hs
  have HE : Hid (zp X.fs g d s own r.s = .ok ((s.n, none), r.s)) := by unfold zp; rw [if_pos hc]; rfl
  generalize hG : RkP X w r d (zp X.fs g d s own r.s) = G
  have HG : Hid (RkP X w r d (zp X.fs g d s own r.s) = G) := hG
  clear hs hst hc hX hG
  go_enter Tryz.func82, Tryz.ntmps82
  go_wp2
  refine bodyPost_ret (v := vlA s.n (.slice none 0 0)) (by simp [results, Tryz.results82, go_sem]) rfl ?_
  rw [← HG.out, HE.out]
  exact rk_fin HS.out _ _
theorem rk_len {X : Mx} (hX : MxOk X) {s : Ms} {b o : Nat} (hst : StepAt X.wc b o s) (hc : s.code = 10) {g d ob : Nat} {w : World} {r : Rs} {own : List Vl} (hs : Sm X.w0 X.P X.fv w r d) (ho : OwM w ob r.ab own) (ha : 0 ≤ s.a ∧ s.a < own.length) (hk : own.length ≤ 1000000) :
    Calls Tryz.prog 82 (rkA X b o ob own.length) w (RkP X w r d (zp X.fs g d s own r.s)) := by
  have c0 := zk (A := zv) (hX.cell hs hst.c0)
  have c2 := zk (A := zv) (hX.cell hs hst.c2)
  rw [hc] at c0
  obtain ⟨q, o1, o2, o3⟩ := ho.get ha.1 ha.2
  have HS : Hid (Sm X.w0 X.P X.fv w r d) := hs
  obtain ⟨ia, hia⟩ : ∃ ia : Nat, s.a = ia := ⟨s.a.toNat, by omega⟩
  obtain ⟨k, hk2⟩ : ∃ k, own.length = k := ⟨_, rfl⟩
  have hlt : ia < k := by omega
  rw [hia] at c2 o2
  rw [Int.toNat_natCast] at o2
  have o2' := zk (A := zv) o2
  obtain ⟨z, hz, hq⟩ : ∃ z : Nat, (∃ p c, q = .slice p z c) ∧ zp X.fs g d s own r.s = .ok (((z : Int), none), r.s) := by
    have e : zp X.fs g d s own r.s = .ok ((((zS r.s (pl own s.a).2).length : Int), none), r.s) := by unfold zp; rw [if_neg (by omega), if_neg (by omega), if_neg (by omega), if_neg (by omega), if_pos hc]; rfl
    cases h2 : (pl own s.a).2 with
    | none =>
      rw [h2] at o3 e
      exact ⟨0, ⟨none, 0, o3⟩, e⟩
    | some i =>
      rw [h2] at o3 e
      obtain ⟨bb, n, g1, g2⟩ := o3
      obtain ⟨l, g3, g4, _, _⟩ := hs.arr i bb n g1
      refine ⟨n, ⟨_, _, g2⟩, ?_⟩
      rw [e]
      show Except.ok ((((r.s.hp.getD i []).length : Int), none), r.s) = _
      rw [List.getD_eq_getElem?_getD, g3]
      show Except.ok (((l.length : Int), none), r.s) = _
      rw [g4]
  obtain ⟨p, c, rfl⟩ := hz
  have HE : Hid (zp X.fs g d s own r.s = .ok (((z : Int), none), r.s)) := hq
  show Calls Tryz.prog 82 #[ptr X.P, .pointer (some ⟨b, o, none⟩), .slice (some ⟨ob, 0, none⟩) own.length own.length] w _
  generalize hG : RkP X w r d (zp X.fs g d s own r.s) = G
  have HG : Hid (RkP X w r d (zp X.fs g d s own r.s) = G) := hG
  rw [hk2]
  rw [hk2] at hk
  clear hs hst hc hX hG ha o1 o2 o3 hia hk2 hq ho
  go_enter Tryz.func82, Tryz.ntmps82
  go_wp2
  refine bodyPost_ret (v := vlA z (.slice none 0 0)) (by simp [results, Tryz.results82, go_sem]) rfl ?_
  rw [← HG.out, HE.out]
  exact rk_fin HS.out _ _
theorem zt (w : World) (A : Obj) : Below w.heap.size w (w.alloc A) := (Below.refl _ _).alloc (Nat.le_refl _) A
theorem Sm.newX {w0 : World} {P : Nat} {fv : Value} {w : World} {r : Rs} {d : Nat} (h : Sm w0 P fv w r d) {b : Nat} (hb : w.heap.size ≤ b) : ¬ Xs P r b := by
  intro hx
  rcases hx with rfl | hx | hx
  · have := h.ltP; omega
  · obtain ⟨p, hp, rfl⟩ := List.mem_map.1 hx
    obtain ⟨j, hj⟩ := List.getElem?_of_mem hp
    obtain ⟨l, _, _, _, a4⟩ := h.arr j p.1 p.2 hj
    have := (Array.getElem?_eq_some_iff.1 a4).1
    omega
  · have := (h.out.lt b hx).2
    omega
theorem Sm.setL {w0 : World} {P : Nat} {fv : Value} {w : World} {r : Rs} {d : Nat} (h : Sm w0 P fv w r d) {B i : Nat} {v : Value} (hB : ¬ Xs P r B) (hB0 : w0.heap.size ≤ B) : Sm w0 P fv (w.setCell ⟨B, i, none⟩ v) r d := by
  have ho : ∀ b, b ≠ B → (w.setCell ⟨B, i, none⟩ v).heap[b]? = w.heap[b]? := fun b hb => heap_setCell_other _ _ _ _ hb
  have hsz : (w.setCell ⟨B, i, none⟩ v).heap.size = w.heap.size := by simp
  refine ⟨h.lt, by rw [hsz]; exact h.le, fun b h1 h2 => ?_, ?_, h.inp, qr h.out (fun k hk => ho k (fun e => hB (.inr (.inr (e ▸ hk))))), h.apart, h.alen, fun k b n hk => ?_, h.lo, h.nd, h.few, h.told, h.deep⟩
  · rw [ho b (by omega)]; exact h.kp b h1 h2
  · rw [ho P (fun e => hB (.inl e.symm))]; exact h.pb
  · obtain ⟨l, a1, a2, a3, a4⟩ := h.arr k b n hk
    refine ⟨l, a1, a2, a3, ?_⟩
    rw [ho b (fun e => hB (.inr (.inl (e ▸ List.mem_map.2 ⟨(b, n), List.mem_of_getElem? hk, rfl⟩))))]
    exact a4
theorem Fz.setL {P : Nat} {E : Nat → Prop} {w w1 : World} {r r1 : Rs} (h : Fz P E w r w1 r1) {B i : Nat} {v : Value} (hB : w.heap.size ≤ B) : Fz P E w r (w1.setCell ⟨B, i, none⟩ v) r1 :=
  ⟨h.os, h.tape, h.output, by simp; exact h.size, fun b hb hx he => by rw [heap_setCell_other _ _ _ _ (by show b ≠ B; omega)]; exact h.blk b hb hx he, h.pre, h.new⟩
theorem zR {fn : Func} {p : Tmp} {ty : TypeId} (h : fn.results = #[.cell p ty]) (tmps : Array Value) (P : Program) (w : World) :
    (results fn tmps).run P w = ((asAddr (tmps.getD p undef)).run P w).andThen fun a w₁ => (loadVar ty a).run P w₁ := by
  simp only [results, h]
  simp [Sem.run_bind, Result.andThen]
theorem res179 {fn : Func} {p : Tmp} (h : fn.results = #[.cell p 179]) (tmps : Array Value) (w : World) (g : Nat) (a0 a1 : Value) (hp : tmps.getD p undef = .pointer (some ⟨g, 0, none⟩)) (hg : w.heap[g]? = some (.cells #[a0, a1] 179)) :
    (results fn tmps).run Tryz.prog w = .ok (.agg #[a0, a1]) w := by
  have h1 : (loadVar 179 ⟨g, 0, none⟩).run Tryz.prog w = .ok (.agg #[a0, a1]) w := run_loadVar_row w g 179 179 _ (0, 0) _ hg Tryz.underlying179 rfl (by kernel_rfl)
  rw [zR h, hp]
  simp [asAddr]
  exact h1
theorem set2 {w : World} {B : Nat} {a0 a1 x z : Value} (h : w.heap[B]? = some (.cells #[a0, a1] 179)) : ((w.setCell ⟨B, 0, none⟩ x).setCell ⟨B, 1, none⟩ z).heap[B]? = some (.cells #[x, z] 179) := heap_setCell_same _ _ _ _ _ _ (heap_setCell_same _ _ _ _ _ _ h)
def Rs.new1 (r : Rs) (b : Nat) (n : Nat) : Rs := { r with ab := r.ab ++ [(b, n)], s := { r.s with hp := r.s.hp ++ [List.replicate n 0] } }
theorem Sm.newA {w0 : World} {P : Nat} {fv : Value} {w : World} {r : Rs} {d : Nat} (h : Sm w0 P fv w r d) {n : Nat} (hn : n ≤ 40) : Sm w0 P fv (w.alloc (.cells (q_ (List.replicate n 0)).toArray 2)) (r.new1 w.heap.size n) d ∧ Fz P NoE w r (w.alloc (.cells (q_ (List.replicate n 0)).toArray 2)) (r.new1 w.heap.size n) := by
  have hb := zt w (.cells (q_ (List.replicate n 0)).toArray 2)
  have h' := h.below hb
  have hX := h.newX (Nat.le_refl w.heap.size)
  have hmap : (r.new1 w.heap.size n).ab.map (·.1) = r.ab.map (·.1) ++ [w.heap.size] := by simp [Rs.new1]
  refine ⟨⟨h'.lt, h'.le, h'.kp, h'.pb, h'.inp, h'.out, ?_, ?_, ?_, ?_, ?_, h'.few, h'.told, h'.deep⟩, ⟨hb.os, hb.tape, hb.output, hb.size, fun b h1 _ _ => hb.block b h1, ⟨[(w.heap.size, n)], rfl⟩, ?_⟩⟩
  · intro i hi hm
    rw [hmap] at hm
    rcases List.mem_append.1 hm with hm | hm
    · exact h.apart i hi hm
    · rw [List.mem_singleton] at hm
      subst hm
      exact hX (.inr (.inr hi))
  · show (r.ab ++ _).length = (r.s.hp ++ _).length
    simp [h.alen]
  · intro i b k hi
    have hi' : (r.ab ++ [(w.heap.size, n)])[i]? = some (b, k) := hi
    show ∃ l, (r.s.hp ++ [List.replicate n 0])[i]? = some l ∧ _
    rcases Nat.lt_or_ge i r.ab.length with hlt | hge
    · rw [List.getElem?_append_left hlt] at hi'
      obtain ⟨l, a1, a2, a3, a4⟩ := h'.arr i b k hi'
      exact ⟨l, by rw [List.getElem?_append_left (by rw [← h.alen]; exact hlt)]; exact a1, a2, a3, a4⟩
    · rw [List.getElem?_append_right hge] at hi'
      have e0 : i - r.ab.length = 0 := by
        rcases Nat.eq_zero_or_pos (i - r.ab.length) with e | e
        · exact e
        · rw [List.getElem?_eq_none (by simp; omega)] at hi'; cases hi'
      rw [e0] at hi'
      have e1 : (w.heap.size, n) = (b, k) := by simpa using hi'
      injection e1 with e1 e2
      subst e1
      subst e2
      refine ⟨List.replicate n 0, ?_, by simp, hn, heap_alloc_last _ _⟩
      rw [List.getElem?_append_right (by rw [← h.alen]; exact hge), ← h.alen, e0]
      rfl
  · intro b hm
    rw [hmap] at hm
    rcases List.mem_append.1 hm with hm | hm
    · exact h.lo b hm
    · rw [List.mem_singleton] at hm
      subst hm
      exact h.le
  · rw [hmap]
    refine List.nodup_append.2 ⟨h.nd, by simp, fun a ha b hb e => ?_⟩
    rw [List.mem_singleton] at hb
    subst hb
    subst e
    exact hX (.inr (.inl ha))
  · intro b hx hnx
    rcases hx with hx | hx | hx
    · exact absurd (.inl hx) hnx
    · rw [hmap] at hx
      rcases List.mem_append.1 hx with hx | hx
      · exact absurd (.inr (.inl hx)) hnx
      · rw [List.mem_singleton] at hx
        omega
    · exact absurd (.inr (.inr hx)) hnx
theorem new_er {n : Int} {s : Sg} (h : n < 0 ∨ 40 < n) : newG n s = .error (4, s.out) := if_pos h
theorem new_ok {n : Int} {s : Sg} (h : 0 ≤ n ∧ n ≤ 40) : newG n s = .ok ((0, some s.hp.length), { s with hp := s.hp ++ [List.replicate n.toNat 0] }) := if_neg (by omega)
theorem arr_len {w0 : World} {P : Nat} {fv : Value} {w : World} {r : Rs} {d : Nat} (h : Sm w0 P fv w r d) {q : Option Nat} {p : Option Addr} {l c : Nat} (hq : QvS r.ab q (.slice p l c)) : (zS r.s q).length = l := by
  cases q with
  | none =>
    injection hq with _ h2 _
    rw [h2]
    rfl
  | some i =>
    obtain ⟨b, n, h1, h2⟩ := hq
    injection h2 with _ h3 _
    obtain ⟨li, a1, a2, _, _⟩ := h.arr i b n h1
    show (r.s.hp.getD i []).length = l
    rw [List.getD_eq_getElem?_getD, a1, h3]
    exact a2
def Rs.put1 (r : Rs) (i j : Nat) (n : Int) : Rs := { r with s := { r.s with hp := r.s.hp.modify i (fun l => l.set j n) } }
theorem Sm.putA {w0 : World} {P : Nat} {fv : Value} {w : World} {r : Rs} {d : Nat} (h : Sm w0 P fv w r d) {i b k j : Nat} {n : Int} (hi : r.ab[i]? = some (b, k)) : Sm w0 P fv (w.setCell ⟨b, j, none⟩ (.int .i64 n)) (r.put1 i j n) d ∧ Fz P NoE w r (w.setCell ⟨b, j, none⟩ (.int .i64 n)) (r.put1 i j n) := by
  have hmem : b ∈ r.ab.map (·.1) := List.mem_map.2 ⟨(b, k), List.mem_of_getElem? hi, rfl⟩
  have ho : ∀ x, x ≠ b → (w.setCell ⟨b, j, none⟩ (.int .i64 n)).heap[x]? = w.heap[x]? := fun x hx => heap_setCell_other _ _ _ _ hx
  have hsz : (w.setCell ⟨b, j, none⟩ (.int .i64 n)).heap.size = w.heap.size := by simp
  have hlo := h.lo b hmem
  refine ⟨⟨h.lt, by rw [hsz]; exact h.le, fun x h1 h2 => ?_, ?_, h.inp, qr h.out (fun x hx => ho x (fun e => h.apart x hx (e ▸ hmem))), h.apart, ?_, fun x y m hx => ?_, h.lo, h.nd, h.few, h.told, h.deep⟩, ⟨rfl, rfl, rfl, by rw [hsz]; exact Nat.le_refl _, fun x _ hx _ => ho x (fun e => hx (.inr (.inl (e ▸ hmem)))), List.prefix_rfl, fun x h1 h2 => absurd h1 h2⟩⟩
  · rw [ho x (by omega)]; exact h.kp x h1 h2
  · rw [ho P (h.ne hmem).symm]; exact h.pb
  · show r.ab.length = (r.s.hp.modify i _).length
    rw [List.length_modify]
    exact h.alen
  · have hx' : r.ab[x]? = some (y, m) := hx
    obtain ⟨l, a1, a2, a3, a4⟩ := h.arr x y m hx'
    show ∃ l, (r.s.hp.modify i _)[x]? = some l ∧ _
    by_cases e : i = x
    · subst e
      rw [hi] at hx'
      injection hx' with hx'
      injection hx' with e1 e2
      subst e1
      subst e2
      refine ⟨l.set j n, by rw [List.getElem?_modify_eq, a1]; rfl, by rw [List.length_set]; exact a2, a3, ?_⟩
      rw [heap_setCell_same _ _ _ _ _ _ a4]
      congr 2
      apply Array.ext'
      simp [q_]
    · refine ⟨l, by rw [List.getElem?_modify_ne _ _ e]; exact a1, a2, a3, ?_⟩
      have hne : y ≠ b := fun e2 => by
        have q1 : (r.ab.map (·.1))[i]? = some b := by rw [List.getElem?_map, hi]; rfl
        have q2 : (r.ab.map (·.1))[x]? = some y := by rw [List.getElem?_map, hx']; rfl
        rw [e2] at q2
        exact e ((List.getElem?_inj (List.getElem?_eq_some_iff.1 q1).1 h.nd).1 (q1.trans q2.symm))
      rw [ho y hne]
      exact a4
theorem put_er {q : Option Nat} {i n : Int} {s : Sg} (h : i < 0 ∨ ((zS s q).length : Int) ≤ i) : putG q i n s = .error (3, s.out) := if_pos h
theorem put_ok {q : Option Nat} {i n : Int} {s : Sg} (h : ¬ (i < 0 ∨ ((zS s q).length : Int) ≤ i)) : putG q i n s = .ok ((), { s with hp := s.hp.modify (q.getD 0) (fun l => l.set i.toNat n) }) := if_neg h
theorem r0_kept {X : Mx} {w : World} {r : Rs} {d : Nat} {w1 : World} {r1 : Rs} (hs : Sm X.w0 X.P X.fv w r d) (hf : Fz X.P NoE (w.alloc zv) r w1 r1) : w1.heap[w.heap.size]? = some zv ∧ ¬ Xs X.P r1 w.heap.size := by
  have hx := hs.newX (Nat.le_refl w.heap.size)
  refine ⟨by rw [hf.blk w.heap.size (by simp) hx (fun e => e)]; exact heap_alloc_last _ _, fun h => ?_⟩
  have := hf.new _ h hx
  simp at this
  omega
theorem fz_in {X : Mx} {w : World} {r : Rs} {w1 : World} {r1 : Rs} {A : Obj} (hf : Fz X.P NoE (w.alloc A) r w1 r1) : Fz X.P NoE w r w1 r1 := (Fz.below ((Below.refl _ _).alloc (Nat.le_refl _) A)).trans hf
theorem rk_end {X : Mx} {w : World} {r : Rs} {d : Nat} {w1 : World} {r1 : Rs} {d1 : Nat} {k : Int} (h1 : Sm X.w0 X.P X.fv w1 r1 d1) (hf : Fz X.P NoE (w.alloc zv) r w1 r1) : RkP X w r d (.error (k, r1.s.out)) (endE k) w1 := ⟨r1, d1, h1, fz_in hf, .inr ⟨k, rfl, rfl⟩⟩
theorem rk_put {X : Mx} {w : World} {r : Rs} {d : Nat} {w1 : World} {r1 : Rs} {y : Vl} {p : Option Addr} {l c : Nat} (hs : Sm X.w0 X.P X.fv w r d) (h1 : Sm X.w0 X.P X.fv w1 r1 d) (hf : Fz X.P NoE (w.alloc zv) r w1 r1) (hq : QvS r1.ab y.2 (.slice p l c)) :
    ((w1.setCell ⟨w.heap.size, 0, none⟩ (.int .i64 y.1)).setCell ⟨w.heap.size, 1, none⟩ (.slice p l c)).heap[w.heap.size]? = some (.cells #[.int .i64 y.1, .slice p l c] 179) ∧ RkP X w r d (.ok (y, r1.s)) (.returned (vlA y.1 (.slice p l c))) ((w1.setCell ⟨w.heap.size, 0, none⟩ (.int .i64 y.1)).setCell ⟨w.heap.size, 1, none⟩ (.slice p l c)) := by
  obtain ⟨h2, h3⟩ := r0_kept hs hf
  refine ⟨set2 h2, r1, d, (h1.setL h3 hs.le).setL h3 hs.le, ?_, .inl ⟨y, p, l, c, rfl, rfl, rfl, hq⟩⟩
  exact ((fz_in hf).setL (Nat.le_refl _)).setL (Nat.le_refl _)
theorem rk_9 {fs : By → Option Mf} {g d : Nat} {s : Ms} {o : List Vl} (h : s.code = 9) : zp fs g d s o = newG (pl o s.a).1 := by unfold zp; simp [h]
theorem rk_14 {fs : By → Option Mf} {g d : Nat} {s : Ms} {o : List Vl} (h : s.code = 14) : zp fs g d s o = gb takeG fun n => gp (n, none) := by unfold zp; simp [h]
theorem rk_3 {fs : By → Option Mf} {g d : Nat} {s : Ms} {o : List Vl} (h : s.code = 3) : zp fs g d s o = gb (bothG s.op (pl o s.a).1 (pl o s.b).1) fun n => gp (n, none) := by unfold zp; simp [h]
theorem rk_2 {fs : By → Option Mf} {g d : Nat} {s : Ms} {o : List Vl} (h : s.code = 2) : zp fs g d s o = gp (pl o s.a) := by unfold zp; simp [h]
theorem rk_11 {fs : By → Option Mf} {g d : Nat} {s : Ms} {o : List Vl} (h : s.code = 11) : zp fs g d s o = gb (itemG (pl o s.a).2 (pl o s.b).1) fun n => gp (n, none) := by unfold zp; simp [h]
theorem rk_new {X : Mx} (hX : MxOk X) {s : Ms} {b o : Nat} (hst : StepAt X.wc b o s) (hc : s.code = 9) {g d ob : Nat} {w : World} {r : Rs} {own : List Vl} (hs : Sm X.w0 X.P X.fv w r d) (ho : OwM w ob r.ab own) (ha : 0 ≤ s.a ∧ s.a < own.length) (hk : own.length ≤ 1000000) :
    Calls Tryz.prog 82 (rkA X b o ob own.length) w (RkP X w r d (zp X.fs g d s own r.s)) := by
  have c0 := zk (A := zv) (hX.cell hs hst.c0)
  have c2 := zk (A := zv) (hX.cell hs hst.c2)
  rw [hc] at c0
  obtain ⟨q, o1, o2, o3⟩ := ho.get ha.1 ha.2
  have HS : Hid (Sm X.w0 X.P X.fv w r d) := hs
  obtain ⟨ia, hia⟩ : ∃ ia : Nat, s.a = ia := ⟨s.a.toNat, by omega⟩
  obtain ⟨k, hk2⟩ : ∃ k, own.length = k := ⟨_, rfl⟩
  have hlt : ia < k := by omega
  obtain ⟨n, hn⟩ : ∃ n, (pl own s.a).1 = n := ⟨_, rfl⟩
  rw [hn] at o1
  rw [hia] at c2 o1
  rw [Int.toNat_natCast] at o1
  have o1' := zk (A := zv) o1
  have HE : Hid (zp X.fs g d s own r.s = newG n r.s) := by rw [← hn]; exact congrFun (rk_9 hc) _
  show Calls Tryz.prog 82 #[ptr X.P, .pointer (some ⟨b, o, none⟩), .slice (some ⟨ob, 0, none⟩) own.length own.length] w _
  generalize hG : RkP X w r d (zp X.fs g d s own r.s) = G
  have HG : Hid (RkP X w r d (zp X.fs g d s own r.s) = G) := hG
  rw [hk2]
  rw [hk2] at hk
  clear hs hst hc hX hG ha o1 o2 o3 hia hk2 ho hn
  go_enter Tryz.func82, Tryz.ntmps82
  go_wp2_with (go_at_call 117; fail)
  refine (array_any _ _).mono ?_
  have HS1 : Hid (Sm X.w0 X.P X.fv (w.alloc zv) r d) := HS.out.below (zt _ _)
  rintro e w2 (⟨hn, rfl, rfl⟩ | ⟨hn1, hn2, rfl, hw2⟩)
  · refine ⟨rfl, ?_⟩
    rw [← HG.out, HE.out, new_er hn]
    exact rk_end HS1.out (Fz.refl _ _ _ _)
  · obtain ⟨a1, a2⟩ := HS1.out.newA (n := n.toNat) (by omega)
    rw [← hw2] at a1 a2
    have HF2 : Hid (Sm X.w0 X.P X.fv w2 (r.new1 (w.alloc zv).heap.size n.toNat) d ∧ Fz X.P NoE (w.alloc zv) r w2 (r.new1 (w.alloc zv).heap.size n.toNat)) := ⟨a1, a2⟩
    have hk2 := (r0_kept HS.out HF2.out.2).1
    have b1 := z_ (i := 0) hk2 rfl
    have b2 := z_ (i := 1) hk2 rfl
    have b3 := zb hk2 0
    have b4 := zb hk2 1
    have HY : Hid (0 ≤ n ∧ n ≤ 40) := ⟨hn1, hn2⟩
    obtain ⟨m2, hm2⟩ : ∃ m2, m2 = n.toNat := ⟨_, rfl⟩
    have HM2 : Hid (m2 = n.toNat) := hm2
    rw [← hm2]
    obtain ⟨B2, hB2⟩ : ∃ B2, B2 = (w.alloc zv).heap.size := ⟨_, rfl⟩
    have HB2 : Hid (B2 = (w.alloc zv).heap.size) := hB2
    rw [← hB2]
    clear a1 a2 hw2 hk2 hn1 hn2 hm2 hB2
    go_wp2
    have hal := HS.out.alen
    obtain ⟨e1, e2⟩ := rk_put (y := (0, some r.s.hp.length)) (p := some ⟨B2, 0, none⟩) (l := m2) (c := m2) HS.out HF2.out.1 HF2.out.2 ⟨(w.alloc zv).heap.size, n.toNat, by show (r.ab ++ _)[r.s.hp.length]? = _; rw [← hal]; simp, by rw [HM2.out, HB2.out]⟩
    refine bodyPost_ret (res179 Tryz.results82 _ _ w.heap.size _ _ rfl e1) rfl ?_
    rw [← HG.out, HE.out, new_ok HY.out]
    exact e2
theorem rk_input {X : Mx} (hX : MxOk X) {s : Ms} {b o : Nat} (hst : StepAt X.wc b o s) (hc : s.code = 14) {g d ob : Nat} {w : World} {r : Rs} {own : List Vl} (hs : Sm X.w0 X.P X.fv w r d) :
    Calls Tryz.prog 82 (rkA X b o ob own.length) w (RkP X w r d (zp X.fs g d s own r.s)) := by
  have c0 := zk (A := zv) (hX.cell hs hst.c0)
  rw [hc] at c0
  have HS : Hid (Sm X.w0 X.P X.fv w r d) := hs
  have HE : Hid (zp X.fs g d s own r.s = (gb takeG fun n => gp (n, none)) r.s) := congrFun (rk_14 hc) _
  generalize hG : RkP X w r d (zp X.fs g d s own r.s) = G
  have HG : Hid (RkP X w r d (zp X.fs g d s own r.s) = G) := hG
  clear hs hst hc hX hG
  go_enter Tryz.func82, Tryz.ntmps82
  go_wp2_with (go_at_call 118; fail)
  refine (take_any X.toCx _ r d (HS.out.below (zt _ _))).mono ?_
  rintro e w2 ⟨iv, rfl, h1, h2⟩
  obtain ⟨nx, hnx⟩ : ∃ nx, r.s.inp.headD 0 = nx := ⟨_, rfl⟩
  rw [hnx]
  have HNx : Hid (r.s.inp.headD 0 = nx) := hnx
  clear hnx
  have HF2 : Hid (Sm X.w0 X.P X.fv w2 (r.take1 iv) d ∧ Fz X.P NoE (w.alloc zv) r w2 (r.take1 iv)) := ⟨h1, h2⟩
  have hk2 := (r0_kept HS.out HF2.out.2).1
  have b1 := z_ (i := 0) hk2 rfl
  have b2 := z_ (i := 1) hk2 rfl
  have b3 := zb hk2 0
  have b4 := zb hk2 1
  clear h1 h2 hk2
  go_wp2
  obtain ⟨e1, e2⟩ := rk_put (y := (nx, none)) (p := none) (l := 0) (c := 0) HS.out HF2.out.1 HF2.out.2 rfl
  refine bodyPost_ret (res179 Tryz.results82 _ _ w.heap.size _ _ rfl e1) rfl ?_
  rw [← HG.out, HE.out]
  rw [← HNx.out] at e2 ⊢
  exact e2
end Go.Proofs.YtnfhpdbbfejioaaGreatDoor.Mid
