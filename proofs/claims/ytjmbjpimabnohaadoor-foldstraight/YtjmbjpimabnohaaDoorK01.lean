/- NB NC ND -/
import Derived.Test.YtjmbjpimabnohaaDoorK00
namespace Go.Proofs.YtjmbjpimabnohaaDoor.Mid
set_option linter.unusedVariables false
set_option linter.unusedSimpArgs false
open Go Go.RowKit
structure Ms where
  code : Int
  dst : Int
  a : Int
  b : Int
  c : Int
  n : Int
  op : By
  label : Int
  name : By
  args : List Int
structure Mf where
  name : By
  params : Int
  types : List Int
  steps : List Ms
def holdB (op : By) (a b : Int) : Bool := if op = [61, 61] then decide (a = b) else if op = [33, 61] then decide (a ≠ b) else if op = [60] then decide (a < b) else if op = [60, 61] then decide (a ≤ b) else if op = [62] then decide (a > b) else if op = [62, 61] then decide (a ≥ b) else false
def bothV (op : By) (a b : Int) : Int × Int :=
  if op = [43] then (wrap64 (a + b), 0)
  else if op = [45] then (wrap64 (a - b), 0)
  else if op = [42] then (wrap64 (a * b), 0)
  else if op = [47] then (if b = 0 then (0, 2) else (wrap64 (a.tdiv b), 0))
  else if op = [37] then (if b = 0 then (0, 2) else (a.tmod b, 0))
  else (if holdB op a b then 1 else 0, 0)
def bothG (op : By) (a b : Int) : Go1 Int := if (bothV op a b).2 ≠ 0 then gt (bothV op a b).2 else gp (bothV op a b).1
theorem tl_eq (y : ByteArray) : y.data.toList = y.toList := (ByteArray.toList_eq y).symm
theorem ret_bool {a b : Bool} (h : a = b) : Ending.returned (.bool a) = .returned (.bool b) := by rw [h]
theorem ret_two {a b c d : Int} (h : a = b) (g : c = d) : Ending.returned (.tuple #[.int .i64 a, .int .i64 c]) = .returned (.tuple #[.int .i64 b, .int .i64 d]) := by rw [h, g]
set_option maxHeartbeats 1000000 in
theorem holds_any (y : ByteArray) (a b : Int) (w : World) : Calls Tryd.prog 21 #[.string y, .int .i64 a, .int .i64 b] w fun e w' => e = .returned (.bool (holdB y.data.toList a b)) ∧ w' = w := by
  rw [tl_eq]
  go_enter Tryd.func21, Tryd.ntmps21
  go_wp2
  all_goals (go_ret; refine ⟨ret_bool ?_, rfl⟩; unfold holdB; simp_all [Bool.beq_eq_decide_eq, bne])
set_option maxHeartbeats 1000000 in
theorem divided_any (y : ByteArray) (a b : Int) (w : World) : Calls Tryd.prog 20 #[.string y, .int .i64 a, .int .i64 b] w fun e w' => e = .returned (if b = 0 then .tuple #[.int .i64 0, .int .i64 2] else if y.data.toList = [47] then .tuple #[.int .i64 (wrap64 (a.tdiv b)), .int .i64 0] else .tuple #[.int .i64 (a.tmod b), .int .i64 0]) ∧ w' = w := by
  rw [tl_eq]
  go_enter Tryd.func20, Tryd.ntmps20
  go_wp2
  all_goals ((try go_ret2); simp_all)
def BoP (op : By) (a b : Int) (w : World) (e : Ending) (w' : World) : Prop := e = .returned (.tuple #[.int .i64 (bothV op a b).1, .int .i64 (bothV op a b).2]) ∧ w' = w
set_option maxHeartbeats 1000000 in
theorem both_any (y : ByteArray) (a b : Int) (w : World) : Calls Tryd.prog 7 #[.string y, .int .i64 a, .int .i64 b] w (BoP y.data.toList a b w) := by
  rw [tl_eq]
  obtain ⟨G, hG⟩ : ∃ G, G = BoP y.toList a b w := ⟨_, rfl⟩
  have HG : Hid (G = BoP y.toList a b w) := hG
  have HH : Hid (∀ w, Calls Tryd.prog 21 #[.string y, .int .i64 a, .int .i64 b] w fun e w' => e = .returned (.bool (holdB y.toList a b)) ∧ w' = w) := fun w => by have := holds_any y a b w; rw [tl_eq] at this; exact this
  obtain ⟨dv, hdv⟩ : ∃ dv : Int × Int, dv = (if b = 0 then (0, 2) else if y.toList = [47] then (wrap64 (a.tdiv b), 0) else (a.tmod b, 0)) := ⟨_, rfl⟩
  have HD : Hid (∀ w, Calls Tryd.prog 20 #[.string y, .int .i64 a, .int .i64 b] w fun e w' => e = .returned (.tuple #[.int .i64 dv.1, .int .i64 dv.2]) ∧ w' = w) := fun w => by
    have := divided_any y a b w
    rw [tl_eq] at this
    refine this.mono ?_
    rintro e w' ⟨rfl, rfl⟩
    refine ⟨?_, rfl⟩
    rw [hdv]
    split
    · rfl
    · split <;> rfl
  have HV : Hid (dv = (if b = 0 then (0, 2) else if y.toList = [47] then (wrap64 (a.tdiv b), 0) else (a.tmod b, 0))) := hdv
  rw [← hG]
  clear hG hdv
  obtain ⟨d1, d2⟩ := dv
  go_enter Tryd.func7, Tryd.ntmps7
  go_wp2_with (first
    | (go_at_call 20; refine (HD.out _).mono ?_; rintro e w' ⟨rfl, rfl⟩)
    | (go_at_call 21; refine (HH.out _).mono ?_; rintro e w' ⟨rfl, rfl⟩))
  all_goals
    ((try go_ret2); have hv := HV.out; rw [HG.out]; refine ⟨ret_two ?_ ?_, rfl⟩ <;> unfold bothV <;> simp_all <;> (try split) <;> simp_all)
def pl (o : List Vl) (i : Int) : Vl := o.getD i.toNat (0, none)
def labOf (l : List Ms) (x : Int) : Option Nat := l.findIdx? (fun s => s.code == 6 && s.label == x)
def theirs (F : Mf) (o : List Vl) (l : List Int) : List Vl := (l.map (pl o)) ++ List.replicate (F.types.length - l.length) (0, none)
def goN (fs : By → Option Mf) : Nat → Nat → Mf → Nat → List Vl → Go1 Int
  | 0 => fun _ _ _ _ => gt 99
  | g + 1 => fun d F k o => gb pay fun _ =>
    match F.steps[k]? with
    | none => gt 98
    | some s =>
      if s.code = 8 then gp (pl o s.a).1
      else if s.code = 4 then goN fs g d F ((labOf F.steps s.label).getD 0 + 1) o
      else if s.code = 5 then (if (pl o s.a).1 = 0 then goN fs g d F ((labOf F.steps s.label).getD 0 + 1) o else goN fs g d F (k + 1) o)
      else if s.code = 13 then gb (tellG (pl o s.a).1) fun _ => goN fs g d F (k + 1) o
      else if s.code = 12 then gb (putG (pl o s.a).2 (pl o s.b).1 (pl o s.c).1) fun _ => goN fs g d F (k + 1) o
      else if s.code = 6 then goN fs g d F (k + 1) o
      else gb (if s.code = 1 then gp (s.n, none)
        else if s.code = 3 then gb (bothG s.op (pl o s.a).1 (pl o s.b).1) fun n => gp (n, none)
        else if s.code = 7 then (match fs s.name with
          | none => gt 98
          | some G => if 40 ≤ d then gt 5 else gb (goN fs g (d + 1) G 0 (theirs G o s.args)) fun n => gp (n, none))
        else if s.code = 9 then newG (pl o s.a).1
        else if s.code = 10 then gb (lenG (pl o s.a).2) fun n => gp (n, none)
        else if s.code = 11 then gb (itemG (pl o s.a).2 (pl o s.b).1) fun n => gp (n, none)
        else if s.code = 14 then gb takeG fun n => gp (n, none)
        else gp (pl o s.a)) fun v => goN fs g d F (k + 1) (o.set s.dst.toNat v)
def reckG (fs : By → Option Mf) (g d : Nat) (s : Ms) (o : List Vl) : Go1 Vl :=
  if s.code = 1 then gp (s.n, none)
  else if s.code = 3 then gb (bothG s.op (pl o s.a).1 (pl o s.b).1) fun n => gp (n, none)
  else if s.code = 7 then (match fs s.name with
    | none => gt 98
    | some G => if 40 ≤ d then gt 5 else gb (goN fs g (d + 1) G 0 (theirs G o s.args)) fun n => gp (n, none))
  else if s.code = 9 then newG (pl o s.a).1
  else if s.code = 10 then gb (lenG (pl o s.a).2) fun n => gp (n, none)
  else if s.code = 11 then gb (itemG (pl o s.a).2 (pl o s.b).1) fun n => gp (n, none)
  else if s.code = 14 then gb takeG fun n => gp (n, none)
  else gp (pl o s.a)
theorem goN_0 (fs : By → Option Mf) (d : Nat) (F : Mf) (k : Nat) (o : List Vl) (s : Sg) : goN fs 0 d F k o s = .error (99, s.out) := rfl
theorem goN_1 (fs : By → Option Mf) (g d : Nat) (F : Mf) (k : Nat) (o : List Vl) : goN fs (g + 1) d F k o = gb pay fun _ =>
    match F.steps[k]? with
    | none => gt 98
    | some s =>
      if s.code = 8 then gp (pl o s.a).1
      else if s.code = 4 then goN fs g d F ((labOf F.steps s.label).getD 0 + 1) o
      else if s.code = 5 then (if (pl o s.a).1 = 0 then goN fs g d F ((labOf F.steps s.label).getD 0 + 1) o else goN fs g d F (k + 1) o)
      else if s.code = 13 then gb (tellG (pl o s.a).1) fun _ => goN fs g d F (k + 1) o
      else if s.code = 12 then gb (putG (pl o s.a).2 (pl o s.b).1 (pl o s.c).1) fun _ => goN fs g d F (k + 1) o
      else if s.code = 6 then goN fs g d F (k + 1) o
      else gb (reckG fs g d s o) fun v => goN fs g d F (k + 1) (o.set s.dst.toNat v) := rfl
abbrev I64 (x : Int) : Prop := -9223372036854775808 ≤ x ∧ x ≤ 9223372036854775807
def IntsAt (w : World) (v : Value) (l : List Int) : Prop :=
  ∃ q c, v = .slice q l.length c ∧ l.length ≤ 1000000 ∧ (∀ x ∈ l, I64 x) ∧ (l = [] ∨ ∃ g o, q = some ⟨g, o, none⟩ ∧ ∀ j x, l[j]? = some x → w.cell? ⟨g, o + j, none⟩ = some (.int .i64 x))
structure StepAt (w : World) (b o : Nat) (s : Ms) : Prop where
  c0 : w.cell? ⟨b, o, none⟩ = some (.int .i64 s.code)
  c1 : w.cell? ⟨b, o + 1, none⟩ = some (.int .i64 s.dst)
  c2 : w.cell? ⟨b, o + 2, none⟩ = some (.int .i64 s.a)
  c3 : w.cell? ⟨b, o + 3, none⟩ = some (.int .i64 s.b)
  c4 : w.cell? ⟨b, o + 4, none⟩ = some (.int .i64 s.c)
  c5 : w.cell? ⟨b, o + 5, none⟩ = some (.int .i64 s.n)
  c6 : w.cell? ⟨b, o + 6, none⟩ = some (.string ⟨s.op.toArray⟩)
  c7 : w.cell? ⟨b, o + 7, none⟩ = some (.int .i64 s.label)
  c8 : w.cell? ⟨b, o + 8, none⟩ = some (.string ⟨s.name.toArray⟩)
  c9 : ∃ v, w.cell? ⟨b, o + 9, none⟩ = some v ∧ IntsAt w v s.args
  i1 : I64 s.code ∧ I64 s.dst ∧ I64 s.a ∧ I64 s.b ∧ I64 s.c ∧ I64 s.n ∧ I64 s.label
  i2 : s.op.length ≤ 1000000 ∧ s.name.length ≤ 9223372036854775807
structure FnAt (w : World) (b o : Nat) (f : Mf) : Prop where
  c0 : w.cell? ⟨b, o, none⟩ = some (.string ⟨f.name.toArray⟩)
  c1 : w.cell? ⟨b, o + 1, none⟩ = some (.int .i64 f.params)
  c2 : ∃ v, w.cell? ⟨b, o + 2, none⟩ = some v ∧ IntsAt w v f.types
  c3 : ∃ q c, w.cell? ⟨b, o + 3, none⟩ = some (.slice q f.steps.length c) ∧ f.steps.length ≤ c ∧ (f.steps = [] ∨ ∃ g p, q = some ⟨g, p, none⟩ ∧ ∀ j s, f.steps[j]? = some s → StepAt w g (p + j * 10) s)
  i1 : I64 f.params
  i2 : f.name.length ≤ 9223372036854775807 ∧ f.types.length ≤ 1000000 ∧ f.steps.length ≤ 1000000
def OwM (w : World) (ob : Nat) (ab : List (Nat × Nat)) (o : List Vl) : Prop :=
  ∃ cs : List Value, w.heap[ob]? = some (.cells cs.toArray 102) ∧ cs.length = o.length * 2 ∧ ∀ i x, o[i]? = some x → ∃ q, cs[i * 2]? = some (.int .i64 x.1) ∧ cs[i * 2 + 1]? = some q ∧ QvS ab x.2 q
theorem OwM.get {w : World} {ob : Nat} {ab : List (Nat × Nat)} {o : List Vl} (h : OwM w ob ab o) {i : Int} (h0 : 0 ≤ i) (h1 : i < o.length) :
    ∃ q, w.cell? ⟨ob, i.toNat * 2, none⟩ = some (.int .i64 (pl o i).1) ∧ w.cell? ⟨ob, i.toNat * 2 + 1, none⟩ = some q ∧ QvS ab (pl o i).2 q := by
  obtain ⟨cs, hc, hl, hv⟩ := h
  have hi : i.toNat < o.length := by omega
  have e : o[i.toNat]? = some (pl o i) := by unfold pl; rw [List.getElem?_eq_getElem hi, List.getD_eq_getElem?_getD, List.getElem?_eq_getElem hi]; rfl
  obtain ⟨q, a1, a2, a3⟩ := hv _ _ e
  exact ⟨q, cell_at hc (by simpa using a1), cell_at hc (by simpa using a2), a3⟩
theorem OwM.mono {w w' : World} {ob : Nat} {a b : List (Nat × Nat)} {o : List Vl} (h : OwM w ob a o) (hk : w'.heap[ob]? = w.heap[ob]?) (hp : a <+: b) : OwM w' ob b o := by
  obtain ⟨cs, hc, hl, hv⟩ := h
  refine ⟨cs, by rw [hk]; exact hc, hl, fun i x hx => ?_⟩
  obtain ⟨q, a1, a2, a3⟩ := hv i x hx
  exact ⟨q, a1, a2, a3.mono hp⟩
theorem OwM.lt {w : World} {ob : Nat} {a : List (Nat × Nat)} {o : List Vl} (h : OwM w ob a o) : ob < w.heap.size := by
  obtain ⟨cs, hc, _⟩ := h
  exact (Array.getElem?_eq_some_iff.1 hc).1
theorem OwM.notX {w0 : World} {P : Nat} {fv : Value} {w : World} {r : Rs} {d ob : Nat} {a : List (Nat × Nat)} {o : List Vl} (h : OwM w ob a o) (hs : Sm w0 P fv w r d) : ¬ Xs P r ob := by
  obtain ⟨cs, hc, _⟩ := h
  rintro (rfl | hx | hx)
  · have := hs.pb; rw [hc] at this; injection this with this; injection this with _ e; cases e
  · obtain ⟨p, hp, rfl⟩ := List.mem_map.1 hx
    obtain ⟨i, hi⟩ := List.getElem?_of_mem hp
    obtain ⟨l, _, _, _, a4⟩ := hs.arr i p.1 p.2 hi
    rw [hc] at a4; injection a4 with a4; injection a4 with _ e; cases e
  · rcases hs.out.2 with ⟨hv, _⟩ | ⟨g, cap, cur, hv, hb, hg, _⟩
    · rw [hv] at hx; cases hx
    · rw [hv] at hx
      have : g = ob := by injection hx
      subst this
      rw [hg] at hc; injection hc with hc; injection hc with _ e; cases e
theorem Sm.cell {w0 : World} {P : Nat} {fv : Value} {w : World} {r : Rs} {d : Nat} (h : Sm w0 P fv w r d) {b o : Nat} {v : Value} (hb : b ≠ P) (hc : w0.cell? ⟨b, o, none⟩ = some v) : w.cell? ⟨b, o, none⟩ = some v := by
  rw [← hc]
  refine World.cell?_of_block (a := ⟨b, o, none⟩) (h.kp b ?_ hb)
  rcases Nat.lt_or_ge b w0.heap.size with h | h
  · exact h
  · unfold World.cell? at hc
    simp [Array.getElem?_eq_none h] at hc
structure Mx extends Cx where
  wc : World
  fs : By → Option Mf
structure MxOk (X : Mx) : Prop where
  size : X.wc.heap.size ≤ X.P
  keep : ∀ b, b < X.wc.heap.size → X.w0.heap[b]? = X.wc.heap[b]?
theorem cell_lt {w : World} {b o : Nat} {v : Value} (h : w.cell? ⟨b, o, none⟩ = some v) : b < w.heap.size := by
  rcases Nat.lt_or_ge b w.heap.size with h' | h'
  · exact h'
  · unfold World.cell? at h
    simp [Array.getElem?_eq_none h'] at h
theorem MxOk.cell {X : Mx} (h : MxOk X) {w : World} {r : Rs} {d : Nat} (hs : Sm X.w0 X.P X.fv w r d) {b o : Nat} {v : Value} (hc : X.wc.cell? ⟨b, o, none⟩ = some v) : w.cell? ⟨b, o, none⟩ = some v := by
  have hb := cell_lt hc
  have := h.size
  refine hs.cell (by omega) ?_
  rw [← hc]
  exact World.cell?_of_block (a := ⟨b, o, none⟩) (h.keep b hb)
theorem cell_old {w : World} {b o : Nat} {v : Value} {A : Obj} (h : w.cell? ⟨b, o, none⟩ = some v) : (w.alloc A).cell? ⟨b, o, none⟩ = some v := by
  rw [← h]
  exact World.cell?_of_block (a := ⟨b, o, none⟩) (row_eq_alloc (cell_lt h))
def RkP (X : Mx) (w : World) (r : Rs) (d : Nat) (x : Except (Int × List Int) (Vl × Sg)) (e : Ending) (w' : World) : Prop :=
  ∃ r' d', Sm X.w0 X.P X.fv w' r' d' ∧ Fz X.P NoE w r w' r' ∧
    ((∃ y p l c, d' = d ∧ x = .ok (y, r'.s) ∧ e = .returned (vlA y.1 (.slice p l c)) ∧ QvS r'.ab y.2 (.slice p l c)) ∨ (∃ k, x = .error (k, r'.s.out) ∧ e = endE k))
abbrev rkA (X : Mx) (b o ob k : Nat) : Array Value := #[ptr X.P, .pointer (some ⟨b, o, none⟩), .slice (some ⟨ob, 0, none⟩) k k]
theorem rk_fin {X : Mx} {w : World} {r : Rs} {d : Nat} (h : Sm X.w0 X.P X.fv w r d) (n : Int) (A : Obj) : RkP X w r d (.ok ((n, none), r.s)) (.returned (vlA n (.slice none 0 0))) (w.alloc A) :=
  ⟨r, d, h.below ((Below.refl _ _).alloc (Nat.le_refl _) _), Fz.below ((Below.refl _ _).alloc (Nat.le_refl _) _), .inl ⟨(n, none), none, 0, 0, rfl, rfl, rfl, rfl⟩⟩
abbrev zv : Obj := .cells #[.int .i64 0, .slice none 0 0] 102
set_option maxRecDepth 100000 in
set_option maxHeartbeats 1000000 in
theorem rk_const {X : Mx} (hX : MxOk X) {s : Ms} {b o : Nat} (hst : StepAt X.wc b o s) (hc : s.code = 1) {g d ob : Nat} {w : World} {r : Rs} {own : List Vl} (hs : Sm X.w0 X.P X.fv w r d) :
    Calls Tryd.prog 44 (rkA X b o ob own.length) w (RkP X w r d (reckG X.fs g d s own r.s)) := by
  have c0 := cell_old (A := zv) (hX.cell hs hst.c0)
  have c5 := cell_old (A := zv) (hX.cell hs hst.c5)
  rw [hc] at c0
  have HS : Hid (Sm X.w0 X.P X.fv w r d) := hs
  have HE : Hid (reckG X.fs g d s own r.s = .ok ((s.n, none), r.s)) := by unfold reckG; rw [if_pos hc]; rfl
  generalize hG : RkP X w r d (reckG X.fs g d s own r.s) = G
  have HG : Hid (RkP X w r d (reckG X.fs g d s own r.s) = G) := hG
  clear hs hst hc hX hG
  go_enter Tryd.func44, Tryd.ntmps44
  go_wp2
  refine bodyPost_ret (v := vlA s.n (.slice none 0 0)) (by simp [results, Tryd.results44, go_sem]) rfl ?_
  rw [← HG.out, HE.out]
  exact rk_fin HS.out _ _
set_option maxRecDepth 100000 in
set_option maxHeartbeats 1000000 in
theorem rk_len {X : Mx} (hX : MxOk X) {s : Ms} {b o : Nat} (hst : StepAt X.wc b o s) (hc : s.code = 10) {g d ob : Nat} {w : World} {r : Rs} {own : List Vl} (hs : Sm X.w0 X.P X.fv w r d) (ho : OwM w ob r.ab own) (ha : 0 ≤ s.a ∧ s.a < own.length) (hk : own.length ≤ 1000000) :
    Calls Tryd.prog 44 (rkA X b o ob own.length) w (RkP X w r d (reckG X.fs g d s own r.s)) := by
  have c0 := cell_old (A := zv) (hX.cell hs hst.c0)
  have c2 := cell_old (A := zv) (hX.cell hs hst.c2)
  rw [hc] at c0
  obtain ⟨q, o1, o2, o3⟩ := ho.get ha.1 ha.2
  have HS : Hid (Sm X.w0 X.P X.fv w r d) := hs
  obtain ⟨ia, hia⟩ : ∃ ia : Nat, s.a = ia := ⟨s.a.toNat, by omega⟩
  obtain ⟨k, hk2⟩ : ∃ k, own.length = k := ⟨_, rfl⟩
  have hlt : ia < k := by omega
  rw [hia] at c2 o2
  rw [Int.toNat_natCast] at o2
  have o2' := cell_old (A := zv) o2
  obtain ⟨z, hz, hq⟩ : ∃ z : Nat, (∃ p c, q = .slice p z c) ∧ reckG X.fs g d s own r.s = .ok (((z : Int), none), r.s) := by
    have e : reckG X.fs g d s own r.s = .ok ((((arrOf r.s (pl own s.a).2).length : Int), none), r.s) := by unfold reckG; rw [if_neg (by omega), if_neg (by omega), if_neg (by omega), if_neg (by omega), if_pos hc]; rfl
    cases h2 : (pl own s.a).2 with
    | none =>
      rw [h2] at o3 e
      exact ⟨0, ⟨none, 0, o3⟩, e⟩
    | some i =>
      rw [h2] at o3 e
      obtain ⟨bb, n, g1, g2⟩ := o3
      obtain ⟨l, g3, g4, _, _⟩ := hs.arr i bb n g1
      refine ⟨n, ⟨_, _, g2⟩, ?_⟩
      rw [e]
      show Except.ok ((((r.s.hp.getD i []).length : Int), none), r.s) = _
      rw [List.getD_eq_getElem?_getD, g3]
      show Except.ok (((l.length : Int), none), r.s) = _
      rw [g4]
  obtain ⟨p, c, rfl⟩ := hz
  have HE : Hid (reckG X.fs g d s own r.s = .ok (((z : Int), none), r.s)) := hq
  show Calls Tryd.prog 44 #[ptr X.P, .pointer (some ⟨b, o, none⟩), .slice (some ⟨ob, 0, none⟩) own.length own.length] w _
  generalize hG : RkP X w r d (reckG X.fs g d s own r.s) = G
  have HG : Hid (RkP X w r d (reckG X.fs g d s own r.s) = G) := hG
  rw [hk2]
  rw [hk2] at hk
  clear hs hst hc hX hG ha o1 o2 o3 hia hk2 hq ho
  go_enter Tryd.func44, Tryd.ntmps44
  go_wp2
  refine bodyPost_ret (v := vlA z (.slice none 0 0)) (by simp [results, Tryd.results44, go_sem]) rfl ?_
  rw [← HG.out, HE.out]
  exact rk_fin HS.out _ _
end Go.Proofs.YtjmbjpimabnohaaDoor.Mid
