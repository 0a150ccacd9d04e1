/- Package run, walked: throw, number, truth, divisor, holds, both: they read and write nothing of the program's. Maps of names: what each stands for. Package run: what lies in memory while a program goes. Package run: expressions that are made ready: closures in memory. Package run: statements, blocks that are ready; what a part of the program's way leaves. -/
import Derived.Test.YtnfhpdbbfejioaaGreatDoorProg
import Derived.Test.YtnfhpdbbfejioaaGreatDoorL00
import Derived.WalkKit
import Derived.WalkLawsBesides
import Derived.OwnWalk
import Derived.Deep.AppendLies
import Derived.Test.YtnfhpdbbfejioaaGreatDoorL15
import Derived.Test.YtnfhpdbbfejioaaGreatDoorL03
import Derived.Test.YtnfhpdbbfejioaaGreatDoorL04
import Derived.Deep.RegionHeld3
import Derived.Laws.EntriesVeiled
namespace Go.Proofs.YtnfhpdbbfejioaaGreatDoor
set_option linter.unusedVariables false
set_option linter.unusedSimpArgs false
open Go Go.RowKit
/-- What is thrown where the program ends; what Return throws. -/
abbrev endE (k : Int) : Ending := .panicked [{ v := .iface 61 (.int .i64 k), recovered := false }]
abbrev toldE (n : Int) : Ending := .panicked [{ v := .iface 129 (.int .i64 n), recovered := false }]
/-- A value: a number, an array. -/
abbrev vlA (n : Int) (q : Value) : Value := .agg #[.int .i64 n, q]
theorem rthrow_any (k : Int) (w : World) : Calls Tryz.prog 54 #[.int .i64 k] w fun e w' => e = endE k ∧ w' = w := by
  go_enter Tryz.func54, Tryz.ntmps54
  go_wp2
  exact ⟨rfl, rfl, rfl⟩
theorem truth_any (b : Bool) (w : World) : Calls Tryz.prog 223 #[.bool b] w fun e w' => e = .returned (.int .i64 (if b then 1 else 0)) ∧ w' = w := by
  cases b <;> (go_enter Tryz.func223, Tryz.ntmps223; go_wp2; go_ret; exact ⟨rfl, rfl⟩)
theorem number_any (n : Int) (w : World) : Calls Tryz.prog 196 #[.int .i64 n] w fun e w' => e = .returned (vlA n (.slice none 0 0)) ∧ Below w.heap.size w w' := by
  go_enter Tryz.func196, Tryz.ntmps196
  go_wp2
  exact bodyPost_ret (v := vlA n (.slice none 0 0)) (by simp [results, Tryz.results196, go_sem]) rfl ⟨rfl, (Below.refl _ _).alloc (Nat.le_refl _) _⟩
theorem divisor_any (n : Int) (w : World) : Calls Tryz.prog 243 #[.int .i64 n] w fun e w' => ((n = 0 ∧ e = endE 2) ∨ (n ≠ 0 ∧ e = .returned (.int .i64 n))) ∧ w' = w := by
  by_cases h : n = 0
  · subst h
    go_enter Tryz.func243, Tryz.ntmps243
    go_wp2_with (go_at_call 54; refine (rthrow_any _ _).mono ?_; rintro e w' ⟨rfl, rfl⟩)
    exact ⟨rfl, .inl ⟨trivial, rfl⟩, rfl⟩
  · go_enter Tryz.func243, Tryz.ntmps243
    go_wp2
    go_ret
    exact ⟨.inr ⟨h, rfl⟩, rfl⟩
theorem tl_eq (y : ByteArray) : y.data.toList = y.toList := (ByteArray.toList_eq y).symm
/-- What a mark says of two numbers. -/
def holdB (op : By) (a b : Int) : Bool := if op = [61, 61] then decide (a = b) else if op = [33, 61] then decide (a ≠ b) else if op = [60] then decide (a < b) else if op = [60, 61] then decide (a ≤ b) else if op = [62] then decide (a > b) else decide (a ≥ b)
theorem ret_bool {a b : Bool} (h : a = b) : Ending.returned (.bool a) = .returned (.bool b) := by rw [h]
set_option maxHeartbeats 1000000 in
theorem holds_any (y : ByteArray) (a b : Int) (w : World) : Calls Tryz.prog 244 #[.string y, .int .i64 a, .int .i64 b] w fun e w' => e = .returned (.bool (holdB y.data.toList a b)) ∧ w' = w := by
  rw [tl_eq]
  go_enter Tryz.func244, Tryz.ntmps244
  go_wp2
  all_goals (go_ret; refine ⟨ret_bool ?_, rfl⟩; unfold holdB; simp_all [Bool.beq_eq_decide_eq, bne])
/-- What a mark of two comes to (none: by 0). -/
def bothV (op : By) (a b : Int) : Option Int :=
  if op = [43] then some (wrap64 (a + b))
  else if op = [45] then some (wrap64 (a - b))
  else if op = [42] then some (wrap64 (a * b))
  else if op = [47] then (if b = 0 then none else some (wrap64 (a.tdiv b)))
  else if op = [37] then (if b = 0 then none else some (a.tmod b))
  else some (if holdB op a b then 1 else 0)
def BothP (op : By) (a b : Int) (w : World) (e : Ending) (w' : World) : Prop := ((∃ n, bothV op a b = some n ∧ e = .returned (.int .i64 n)) ∨ (bothV op a b = none ∧ e = endE 2)) ∧ w' = w
set_option maxHeartbeats 1000000 in
theorem both_any (y : ByteArray) (a b : Int) (w : World) : Calls Tryz.prog 226 #[.string y, .int .i64 a, .int .i64 b] w (BothP y.data.toList a b w) := by
  rw [tl_eq]
  obtain ⟨G, hG⟩ : ∃ G, G = BothP y.toList a b w := ⟨_, rfl⟩
  have HG : Hid (G = BothP y.toList a b w) := hG
  have HH : Hid (∀ w, Calls Tryz.prog 244 #[.string y, .int .i64 a, .int .i64 b] w fun e w' => e = .returned (.bool (holdB y.toList a b)) ∧ w' = w) := fun w => by have := holds_any y a b w; rw [tl_eq] at this; exact this
  rw [← hG]
  clear hG
  go_enter Tryz.func226, Tryz.ntmps226
  go_wp2_with (first
    | (go_at_call 243; refine (divisor_any _ _).mono ?_; rintro e w' ⟨⟨hz, rfl⟩ | ⟨hz, rfl⟩, rfl⟩)
    | (go_at_call 244; refine (HH.out _).mono ?_; rintro e w' ⟨rfl, rfl⟩)
    | (go_at_call 223; refine (truth_any _ _).mono ?_; rintro e w' ⟨rfl, rfl⟩))
  all_goals first
    | (refine ⟨rfl, ?_⟩; rw [HG.out]; refine ⟨.inr ⟨?_, rfl⟩, rfl⟩; unfold bothV; simp_all; done)
    | (rw [HG.out]; refine ⟨.inl ⟨_, ?_, rfl⟩, rfl⟩; unfold bothV; simp_all; done)
    | trace_state
  all_goals omega
/-! ### Maps of names -/
/-- Every value reads as itself. -/
def Rv (v : Value) : Option (DataW Value × List MemPlace) := some (.held v, [])
/-- A map of names: what each stands for. -/
def MapV (w : World) (b n : Nat) (f : By → Option Value) : Prop := ∃ D, w.ownsMap Tryz.prog 9 Rv b n D ∧ ∀ nm z, D.atKey (.string nm) (.held z) = .held ((f nm).getD z)
theorem MapV.obj {w : World} {b n : Nat} {f : By → Option Value} (h : MapV w b n f) : ∃ es clock, w.heap[b]? = some (.map es clock) := by
  obtain ⟨D, ⟨es, clock, h1, _⟩, _⟩ := h
  exact ⟨es, clock, h1⟩
theorem MapV.kept {w w' : World} {b n : Nat} {f : By → Option Value} (h : MapV w b n f) (hk : w'.heap[b]? = w.heap[b]?) : MapV w' b n f := by
  obtain ⟨D, ⟨es, clock, h1, h2⟩, h3⟩ := h
  exact ⟨D, ⟨es, clock, by rw [hk]; exact h1, h2⟩, h3⟩
theorem MapV.lt {w : World} {b n : Nat} {f : By → Option Value} (h : MapV w b n f) : b < w.heap.size := by
  obtain ⟨es, clock, h1⟩ := h.obj
  exact (Array.getElem?_eq_some_iff.1 h1).1
theorem MapV.made (w : World) : MapV (w.alloc (.map #[] 0)) w.heap.size 0 (fun _ => none) :=
  ⟨_, World.ownsMap_made w Tryz.prog 9 Rv, fun nm z => rfl⟩
theorem map_keyOf (x : ByteArray) (hx : x.size ≤ 1000000) : keyOf Tryz.prog 9 (.string x) = some (.string x.data.toList) := Go.WideMaps.keyOf_string_mk Tryz.underlying9 (by unfold maxLen; omega)
theorem MapV.look {w : World} {b n : Nat} {f : By → Option Value} {t e : TypeId} (h : MapV w b n f) (ht : Tryz.prog.underlying t = some (.map 9 e)) {z : Value} (hz : (zeroValue e).run Tryz.prog w = .ok z w) (x : ByteArray) (hx : x.size ≤ 1000000) :
    (Instr.lookup t (.map (some b)) (.string x) false).run Tryz.prog w = .ok ((f x.data.toList).getD z) w := by
  obtain ⟨D, h1, h3⟩ := h
  obtain ⟨v, ps, hrun, hR⟩ := World.ownsMap.lookup h1 (Maps.string_keyed Tryz.underlying9) ht hz (show Rv z = some (.held z, []) from rfl) (map_keyOf x hx)
  rw [h3] at hR
  unfold Rv at hR
  simp only [Option.some.injEq, Prod.mk.injEq, DataW.held.injEq] at hR
  rw [hrun, hR.1]
theorem map_key_ne {a b : By} (h : a ≠ b) : (Lit.string a) ≠ .string b := fun e => h (by injection e)
theorem MapV.put {w : World} {b n : Nat} {f : By → Option Value} {t e : TypeId} (h : MapV w b n f) (ht : Tryz.prog.underlying t = some (.map 9 e)) (hn : n < 100000000) (x : ByteArray) (hx : x.size ≤ 1000000) (v : Value) :
    ∃ w', (Instr.mapUpdate t (.map (some b)) (.string x) v).run Tryz.prog w = .ok () w' ∧ MapV w' b (n + 1) (fun y => if y = x.data.toList then some v else f y) ∧ w.grownBy w' (some b) := by
  obtain ⟨D, h1, h3⟩ := h
  obtain ⟨w', hrun, ho, hg⟩ := World.ownsMap.update h1 (Maps.string_keyed Tryz.underlying9) ht (by unfold maxLen; omega) (map_keyOf x hx) (show Rv v = some (.held v, []) from rfl)
  refine ⟨w', hrun, ⟨_, ho, fun nm z => ?_⟩, hg⟩
  by_cases e : nm = x.data.toList
  · subst e
    rw [Maps.atKey_put_same h1.isMap (by trivial)]
    simp
  · rw [Maps.atKey_put_other (map_key_ne e), h3]
    simp [e]
/-! ### What is written -/
abbrev ints (l : List Int) : List Value := l.map (.int .i64)
/-- Arrays (blocks, lengths), what was not asked for yet, what was told; what is left. -/
structure Rs where
  ab : List (Nat × Nat)
  iv : Value
  ov : Value
  s : Sg
def Xs (P : Nat) (r : Rs) (b : Nat) : Prop := b = P ∨ b ∈ r.ab.map (·.1) ∨ r.ov.ownBlock = some b
/-- What was given, and not asked for yet. -/
def InS (w0 : World) (P : Nat) (iv : Value) (l : List Int) : Prop :=
  ∃ q c, iv = .slice q l.length c ∧ (l = [] ∨ ∃ g o, q = some ⟨g, o, none⟩ ∧ g < w0.heap.size ∧ g ≠ P ∧ l.length ≤ c ∧ ∀ j x, l[j]? = some x → w0.cell? ⟨g, o + j, none⟩ = some (.int .i64 x))
structure St (w0 : World) (P : Nat) (fv : Value) (w : World) (r : Rs) (d : Nat) : Prop where
  lt : P < w0.heap.size
  le : w0.heap.size ≤ w.heap.size
  kp : ∀ b, b < w0.heap.size → b ≠ P → w.heap[b]? = w0.heap[b]?
  pb : w.heap[P]? = some (.cells #[fv, r.iv, r.ov, .int .i64 (r.s.fuel : Int), .int .i64 (d : Int)] 60)
  inp : InS w0 P r.iv r.s.inp
  out : w.ownsRow w0.heap.size 2 1 r.ov r.s.out.length (ints r.s.out)
  apart : ∀ i, r.ov.ownBlock = some i → i ∉ r.ab.map (·.1)
  alen : r.ab.length = r.s.hp.length
  arr : ∀ (i b n : Nat), r.ab[i]? = some (b, n) → ∃ l, r.s.hp[i]? = some l ∧ l.length = n ∧ n ≤ 40 ∧ w.heap[b]? = some (.cells (ints l).toArray 2)
  lo : ∀ b ∈ r.ab.map (·.1), w0.heap.size ≤ b
  nd : (r.ab.map (·.1)).Nodup
  few : r.s.fuel ≤ 1000000
  told : r.s.out.length ≤ 200
  deep : d ≤ 40
/-- What a part of the program's way leaves as it was. -/
structure Fz (P : Nat) (E : Nat → Prop) (w : World) (r : Rs) (w' : World) (r' : Rs) : Prop where
  os : w'.os = w.os
  tape : w'.tape = w.tape
  output : w'.output = w.output
  size : w.heap.size ≤ w'.heap.size
  blk : ∀ b, b < w.heap.size → ¬ Xs P r b → ¬ E b → w'.heap[b]? = w.heap[b]?
  pre : r.ab <+: r'.ab
  new : ∀ b, Xs P r' b → ¬ Xs P r b → w.heap.size ≤ b
abbrev NoE : Nat → Prop := fun _ => False
theorem Fz.refl (P : Nat) (E : Nat → Prop) (w : World) (r : Rs) : Fz P E w r w r := ⟨rfl, rfl, rfl, Nat.le_refl _, fun _ _ _ _ => rfl, List.prefix_rfl, fun b h1 h2 => absurd h1 h2⟩
theorem Fz.trans {P : Nat} {E : Nat → Prop} {w1 w2 w3 : World} {r1 r2 r3 : Rs} (h : Fz P E w1 r1 w2 r2) (g : Fz P E w2 r2 w3 r3) : Fz P E w1 r1 w3 r3 := by
  refine ⟨g.os.trans h.os, g.tape.trans h.tape, g.output.trans h.output, Nat.le_trans h.size g.size, fun b hb hx he => ?_, h.pre.trans g.pre, fun b h3 h1 => ?_⟩
  · rw [g.blk b (Nat.lt_of_lt_of_le hb h.size) (fun h2 => by have := h.new b h2 hx; omega) he, h.blk b hb hx he]
  · by_cases h2 : Xs P r2 b
    · exact h.new b h2 h1
    · exact Nat.le_trans h.size (g.new b h3 h2)
theorem Fz.wide {P : Nat} {E E' : Nat → Prop} {w w' : World} {r r' : Rs} (h : Fz P E w r w' r') (hE : ∀ b, E b → E' b) : Fz P E' w r w' r' := ⟨h.os, h.tape, h.output, h.size, fun b hb hx he => h.blk b hb hx (fun e => he (hE b e)), h.pre, h.new⟩
theorem Fz.no {P : Nat} {E : Nat → Prop} {w w' : World} {r r' : Rs} (h : Fz P NoE w r w' r') : Fz P E w r w' r' := h.wide (fun _ h => h.elim)
theorem Fz.below {P : Nat} {E : Nat → Prop} {w w' : World} {r : Rs} (h : Below w.heap.size w w') : Fz P E w r w' r := ⟨h.os, h.tape, h.output, h.size, fun b hb _ _ => h.block b hb, List.prefix_rfl, fun b h1 h2 => absurd h1 h2⟩
theorem own_at {w w' : World} {B e z n : Nat} {v : Value} {ys : List Value} (h : w.ownsRow B e z v n ys) (hk : ∀ i, v.ownBlock = some i → w'.heap[i]? = w.heap[i]?) : w'.ownsRow B e z v n ys := by
  refine ⟨h.1, ?_⟩
  rcases h.2 with hh | ⟨g', cap, cur, hv, hb, hg, rest⟩
  · exact .inl hh
  · exact .inr ⟨g', cap, cur, hv, hb, by rw [hk g' (by rw [hv]; rfl)]; exact hg, rest⟩
theorem St.below {w0 : World} {P : Nat} {fv : Value} {w w' : World} {r : Rs} {d : Nat} (h : St w0 P fv w r d) (hb : Below w.heap.size w w') : St w0 P fv w' r d := by
  have hP := Nat.lt_of_lt_of_le h.lt h.le
  refine ⟨h.lt, Nat.le_trans h.le hb.size, fun b h1 h2 => ?_, ?_, h.inp, own_at h.out (fun i hi => hb.block i (own_lt h.out i hi)), h.apart, h.alen, fun i b n hi => ?_, h.lo, h.nd, h.few, h.told, h.deep⟩
  · rw [hb.block b (Nat.lt_of_lt_of_le h1 h.le)]; exact h.kp b h1 h2
  · rw [hb.block P hP]; exact h.pb
  · obtain ⟨l, a1, a2, a3, a4⟩ := h.arr i b n hi
    exact ⟨l, a1, a2, a3, by rw [hb.block b (Array.getElem?_eq_some_iff.1 a4).1]; exact a4⟩
theorem St.ltP {w0 : World} {P : Nat} {fv : Value} {w : World} {r : Rs} {d : Nat} (h : St w0 P fv w r d) : P < w.heap.size := Nat.lt_of_lt_of_le h.lt h.le
/-- A block that stands since the program was made ready. -/
theorem St.old {w0 : World} {P : Nat} {fv : Value} {w : World} {r : Rs} {d : Nat} (h : St w0 P fv w r d) {b : Nat} {cs : Array Value} {t : TypeId} (hb : w0.heap[b]? = some (.cells cs t)) (hP : ∃ ds, w0.heap[P]? = some (.cells ds 60)) (ht : t ≠ 60) : w.heap[b]? = some (.cells cs t) := by
  obtain ⟨ds, hd⟩ := hP
  rw [h.kp b (Array.getElem?_eq_some_iff.1 hb).1 (fun e => ?_), hb]
  subst e
  rw [hd] at hb
  injection hb with hb
  injection hb with _ h2
  exact ht h2.symm
/-- The array that an index stands for. -/
def QvS (ab : List (Nat × Nat)) : Option Nat → Value → Prop
  | none, v => v = .slice none 0 0
  | some i, v => ∃ b n, ab[i]? = some (b, n) ∧ v = .slice (some ⟨b, 0, none⟩) n n
/-- A value. -/
def VlS (ab : List (Nat × Nat)) (x : Vl) (v : Value) : Prop := ∃ q, v = vlA x.1 q ∧ QvS ab x.2 q
theorem pre_get {α : Type} {a b : List α} (h : a <+: b) {i : Nat} {x : α} (hx : a[i]? = some x) : b[i]? = some x := by
  obtain ⟨c, rfl⟩ := h
  rw [List.getElem?_append_left (List.getElem?_eq_some_iff.1 hx).1]
  exact hx
theorem QvS.mono {a b : List (Nat × Nat)} (h : a <+: b) {i : Option Nat} {v : Value} (hv : QvS a i v) : QvS b i v := by
  cases i with
  | none => exact hv
  | some i =>
    obtain ⟨k, n, h1, h2⟩ := hv
    exact ⟨k, n, pre_get h h1, h2⟩
theorem VlS.mono {a b : List (Nat × Nat)} (h : a <+: b) {x : Vl} {v : Value} (hv : VlS a x v) : VlS b x v := by
  obtain ⟨q, h1, h2⟩ := hv
  exact ⟨q, h1, h2.mono h⟩
/-- Names of a call. -/
def OwS (w : World) (M n : Nat) (ab : List (Nat × Nat)) (o : Own) : Prop := ∃ f, MapV w M n f ∧ ∀ nm, VlS ab (own1 o nm) ((f nm).getD (vlA 0 (.slice none 0 0)))
theorem OwS.keeps {P : Nat} {w w' : World} {r r' : Rs} {M n : Nat} {o : Own} {w0 : World} {fv : Value} {d : Nat} (h : OwS w M n r.ab o) (hs : St w0 P fv w r d) (hf : Fz P NoE w r w' r') : OwS w' M n r'.ab o := by
  obtain ⟨f, h1, h2⟩ := h
  obtain ⟨es, clock, ho⟩ := h1.obj
  refine ⟨f, h1.kept (hf.blk M h1.lt (fun hx => ?_) (fun e => e)), fun nm => (h2 nm).mono hf.pre⟩
  rcases hx with rfl | hx | hx
  · rw [hs.pb] at ho; cases ho
  · obtain ⟨p, hp, rfl⟩ := List.mem_map.1 hx
    obtain ⟨i, hi⟩ := List.getElem?_of_mem hp
    obtain ⟨l, _, _, _, a4⟩ := hs.arr i p.1 p.2 hi
    rw [a4] at ho; cases ho
  · rcases hs.out.2 with ⟨hv, _⟩ | ⟨g, cap, cur, hv, hb, hg, _⟩
    · rw [hv] at hx; cases hx
    · rw [hv] at hx
      have : g = M := by injection hx
      subst this
      rw [hg] at ho; cases ho
abbrev ptr (b : Nat) : Value := .pointer (some ⟨b, 0, none⟩)
/-- A variable that holds a node. -/
def NodeC (w : World) (bx : Nat) (c a n : Int) (nm op : By) : Prop := ∃ (b : Nat) (vl vr vg : Value), w.heap[bx]? = some (.cells #[ptr b] 145) ∧ w.heap[b]? = some (.cells #[.int .i64 c, .int .i64 a, .int .i64 n, str nm, str op, vl, vr, vg] 252)
/-- An expression that is ready (a chain: one by one). -/
def ClE (w : World) (P : Nat) : Tr → Value → Prop
  | .agg [.lit (.int _ c), .lit (.int _ a), .lit (.int _ n), .lit (.string nm), .lit (.string op), l, r, xs], v =>
    (c = 1 ∧ ∃ bx, v = .func (.func 200) #[] #[ptr bx] ∧ NodeC w bx c a n nm op) ∨
    (c = 2 ∧ ∃ bx, v = .func (.func 189) #[] #[ptr bx] ∧ NodeC w bx c a n nm op) ∨
    (c = 3 ∧ ∃ bx bl br vl vr, v = (if op = [38, 38] then .func (.func 222) #[] #[ptr bl, ptr br] else if op = [124, 124] then .func (.func 224) #[] #[ptr bl, ptr br] else .func (.func 225) #[] #[ptr bl, ptr bx, ptr br]) ∧ NodeC w bx c a n nm op ∧ w.heap[bl]? = some (.cells #[vl] 245) ∧ w.heap[br]? = some (.cells #[vr] 245) ∧ ClE w P l vl ∧ ClE w P r vr) ∨
    (c = 4 ∧ ∃ bl vl, v = (if op = [45] then .func (.func 227) #[] #[ptr bl] else .func (.func 228) #[] #[ptr bl]) ∧ w.heap[bl]? = some (.cells #[vl] 245) ∧ ClE w P l vl) ∨
    (c = 5 ∧ ∃ (bp bx ba g : Nat) (ys : List Value), v = .func (.func 229) #[] #[ptr bp, ptr bx, ptr ba] ∧ w.heap[bp]? = some (.cells #[ptr P] 57) ∧ NodeC w bx c a n nm op ∧ w.heap[ba]? = some (.cells #[.slice (some ⟨g, 0, none⟩) ys.length ys.length] 297) ∧ w.heap[g]? = some (.cells ys.toArray 245) ∧ ClE w P xs (.tuple ys.toArray)) ∨
    (c = 6 ∧ ∃ bl vl, v = .func (.func 193) #[] #[ptr bl] ∧ w.heap[bl]? = some (.cells #[vl] 245) ∧ ClE w P l vl) ∨
    (c = 7 ∧ ∃ bl vl, v = .func (.func 195) #[] #[ptr bl] ∧ w.heap[bl]? = some (.cells #[vl] 245) ∧ ClE w P l vl) ∨
    (c = 8 ∧ ∃ bl br vl vr, v = .func (.func 197) #[] #[ptr bl, ptr br] ∧ w.heap[bl]? = some (.cells #[vl] 245) ∧ w.heap[br]? = some (.cells #[vr] 245) ∧ ClE w P l vl ∧ ClE w P r vr) ∨
    (c = 9 ∧ ∃ bp, v = .func (.func 198) #[] #[ptr bp] ∧ w.heap[bp]? = some (.cells #[ptr P] 57))
  | .slice [x] [g], v => ∃ (y : Value) (ys : List Value), v = .tuple (y :: ys).toArray ∧ ClE w P x y ∧ ClE w P g (.tuple ys.toArray)
  | .slice [] [], v => v = .tuple #[]
  | _, _ => False
/-- Cells stand. -/
def Ks (w w' : World) : Prop := ∀ (b : Nat) (cs : Array Value) (t : TypeId), t ≠ 60 → ((t = 245 ∨ t = 67) → Value.nilFunc ∉ cs) → w.heap[b]? = some (.cells cs t) → w'.heap[b]? = some (.cells cs t)
theorem Ks.below {w w' : World} (h : Below w.heap.size w w') : Ks w w' := fun b cs t _ _ hb => by rw [h.block b (Array.getElem?_eq_some_iff.1 hb).1]; exact hb
theorem ClE.isf {w : World} {P : Nat} {t : Tr} {v : Value} (h : ClE w P t v) : v ≠ .nilFunc := by
  unfold ClE at h
  split at h
  · rcases h with ⟨_, bx, rfl, _⟩ | ⟨_, bx, rfl, _⟩ | ⟨_, bx, bl, br, vl, vr, rfl, _⟩ | ⟨_, bl, vl, rfl, _⟩ | ⟨_, bp, bx, ba, g, ys, rfl, _⟩ | ⟨_, bl, vl, rfl, _⟩ | ⟨_, bl, vl, rfl, _⟩ | ⟨_, bl, br, vl, vr, rfl, _⟩ | ⟨_, bp, rfl, _⟩
    all_goals (repeat' split) <;> simp
  · obtain ⟨y, ys, rfl, _⟩ := h
    simp
  · rw [h]; simp
  · exact h.elim
theorem ClE.row {w : World} {P : Nat} : ∀ (t : Tr) {ys : List Value}, ClE w P t (.tuple ys.toArray) → Value.nilFunc ∉ ys.toArray := fun t ys h => by
  unfold ClE at h
  split at h
  · rcases h with ⟨_, bx, e, _⟩ | ⟨_, bx, e, _⟩ | ⟨_, bx, bl, br, vl, vr, e, _⟩ | ⟨_, bl, vl, e, _⟩ | ⟨_, bp, bx, ba, g, ys, e, _⟩ | ⟨_, bl, vl, e, _⟩ | ⟨_, bl, vl, e, _⟩ | ⟨_, bl, br, vl, vr, e, _⟩ | ⟨_, bp, e, _⟩
    all_goals (repeat' split at e) <;> simp at e
  · rename_i x g
    obtain ⟨y, ys', e, h2, h3⟩ := h
    have e' : ys = y :: ys' := by simpa using e
    subst e'
    have := ClE.row g h3
    simp only [List.mem_toArray, List.mem_cons, not_or] at this ⊢
    exact ⟨fun e => h2.isf e.symm, this⟩
  · have e' : ys = [] := by simpa using h
    subst e'
    simp
  · exact h.elim
theorem NodeC.kept {w w' : World} (h : Ks w w') {bx : Nat} {c a n : Int} {nm op : By} (hn : NodeC w bx c a n nm op) : NodeC w' bx c a n nm op := by
  obtain ⟨b, vl, vr, vg, h1, h2⟩ := hn
  exact ⟨b, vl, vr, vg, h _ _ _ (by decide) (fun e => absurd e (by decide)) h1, h _ _ _ (by decide) (fun e => absurd e (by decide)) h2⟩
theorem ClE.kept {w w' : World} {P : Nat} (h1 : Ks w w') (t : Tr) (v : Value) (h : ClE w P t v) : ClE w' P t v := by
  unfold ClE at h
  split at h
  · rename_i c _ a _ n nm op l r xs
    have il := ClE.kept h1 (P := P) l
    have ir := ClE.kept h1 (P := P) r
    have ix := ClE.kept h1 (P := P) xs
    have k : ∀ (b : Nat) (v : Value) (t : TypeId), t ≠ 60 → v ≠ .nilFunc → w.heap[b]? = some (.cells #[v] t) → w'.heap[b]? = some (.cells #[v] t) := fun b v t ht hv hb => h1 _ _ _ ht (fun _ => by simpa using fun e => hv e.symm) hb
    rw [ClE]
    rcases h with ⟨e, bx, e1, e2⟩ | ⟨e, bx, e1, e2⟩ | ⟨e, bx, bl, br, vl, vr, e1, e2, e3, e4, e5, e6⟩ | ⟨e, bl, vl, e1, e2, e3⟩ | ⟨e, bp, bx, ba, g, ys, e1, e2, e3, e4, e5, e6⟩ | ⟨e, bl, vl, e1, e2, e3⟩ | ⟨e, bl, vl, e1, e2, e3⟩ | ⟨e, bl, br, vl, vr, e1, e3, e4, e5, e6⟩ | ⟨e, bp, e1, e2⟩
    · exact .inl ⟨e, bx, e1, e2.kept h1⟩
    · exact .inr (.inl ⟨e, bx, e1, e2.kept h1⟩)
    · exact .inr (.inr (.inl ⟨e, bx, bl, br, vl, vr, e1, e2.kept h1, k _ _ _ (by decide) e5.isf e3, k _ _ _ (by decide) e6.isf e4, il _ e5, ir _ e6⟩))
    · exact .inr (.inr (.inr (.inl ⟨e, bl, vl, e1, k _ _ _ (by decide) e3.isf e2, il _ e3⟩)))
    · exact .inr (.inr (.inr (.inr (.inl ⟨e, bp, bx, ba, g, ys, e1, k _ _ _ (by decide) (by simp) e2, e3.kept h1, k _ _ _ (by decide) (by simp) e4, h1 _ _ _ (by decide) (fun _ => ClE.row _ e6) e5, ix _ e6⟩))))
    · exact .inr (.inr (.inr (.inr (.inr (.inl ⟨e, bl, vl, e1, k _ _ _ (by decide) e3.isf e2, il _ e3⟩)))))
    · exact .inr (.inr (.inr (.inr (.inr (.inr (.inl ⟨e, bl, vl, e1, k _ _ _ (by decide) e3.isf e2, il _ e3⟩))))))
    · exact .inr (.inr (.inr (.inr (.inr (.inr (.inr (.inl ⟨e, bl, br, vl, vr, e1, k _ _ _ (by decide) e5.isf e3, k _ _ _ (by decide) e6.isf e4, il _ e5, ir _ e6⟩)))))))
    · exact .inr (.inr (.inr (.inr (.inr (.inr (.inr (.inr ⟨e, bp, e1, k _ _ _ (by decide) (by simp) e2⟩)))))))
  · obtain ⟨y, ys, e1, e2, e3⟩ := h
    rw [ClE]
    exact ⟨y, ys, e1, ClE.kept h1 _ _ e2, ClE.kept h1 _ _ e3⟩
  · rw [ClE]; exact h
  · exact h.elim
theorem ClE.below {w w' : World} {P : Nat} {t : Tr} {v : Value} (h : ClE w P t v) (hb : Below w.heap.size w w') : ClE w' P t v := ClE.kept (Ks.below hb) t v h
theorem ex_below {S : Nat → Prop} {w w' : World} (hb : Below w.heap.size w w') {t : Tr} {v : Value} (h : ExAt S w t v) : ExAt S w' t v := ExAt.kept (fun b cs t _ _ hk => by rw [hb.block b (Array.getElem?_eq_some_iff.1 hk).1]; exact hk) t v h
theorem Ks.set' {w : World} {b i : Nat} {cs0 : Array Value} {t : TypeId} {v : Value} (ht : t = 245 ∨ t = 67) (hb : w.heap[b]? = some (.cells cs0 t)) (h0 : Value.nilFunc ∈ cs0) : Ks w (w.setCell ⟨b, i, none⟩ v) := fun b' cs t' _ hc hk => by
  have hne : b' ≠ b := fun e => by
    subst e
    rw [hb] at hk
    injection hk with hk
    injection hk with h1 h2
    subst h1
    subst h2
    exact hc ht h0
  rw [heap_setCell_other _ _ _ _ hne]
  exact hk
theorem Ks.set {w : World} {b : Nat} {t : TypeId} {v : Value} (hb : w.heap[b]? = some (.cells #[.nilFunc] t)) (ht : t = 245 ∨ t = 67 := by decide) : Ks w (w.setCell ⟨b, 0, none⟩ v) := Ks.set' ht hb (by simp)
theorem undrew {B : Nat} {a b : World} (h : Below B a.drew b) : Below B a b := ⟨h.os, h.tape, h.output, h.size, h.block⟩
/-- What is stored behind it, or ahead of it. -/
theorem late {w w1 : World} {P : Nat} {l : Tr} {u : Value} (hb : Below w.heap.size w w1) (hcl : ClE w1 P l u) : (w1.alloc (.cells #[u] 245)).heap[w1.heap.size]? = some (.cells #[u] 245) ∧ ClE (w1.alloc (.cells #[u] 245)) P l u ∧ Below w.heap.size w (w1.alloc (.cells #[u] 245)) :=
  ⟨heap_alloc_last _ _, hcl.below ((Below.refl _ _).alloc (Nat.le_refl _) _), hb.alloc hb.size _⟩
theorem early {w W0 w1 : World} {P : Nat} {l : Tr} {u : Value} (hb : Below w.heap.size w W0) (hb1 : Below (W0.alloc (.cells #[.nilFunc] 245)).heap.size (W0.alloc (.cells #[.nilFunc] 245)) w1) (hcl : ClE w1 P l u) : (w1.setCell ⟨W0.heap.size, 0, none⟩ u).heap[W0.heap.size]? = some (.cells #[u] 245) ∧ ClE (w1.setCell ⟨W0.heap.size, 0, none⟩ u) P l u ∧ Below w.heap.size w (w1.setCell ⟨W0.heap.size, 0, none⟩ u) := by
  have h0 : w1.heap[W0.heap.size]? = some (.cells #[.nilFunc] 245) := by rw [hb1.block _ (by simp)]; exact heap_alloc_last _ _
  exact ⟨heap_setCell_same _ _ _ _ _ _ h0, ClE.kept (Ks.set h0) _ _ hcl, ((hb.alloc hb.size _).trans (hb1.mono (by have := hb.size; simp; omega))).setCell (p := ⟨W0.heap.size, 0, none⟩) hb.size _⟩
/-- What making an expression ready leaves. -/
def CmP (P : Nat) (t : Tr) (w : World) (e : Ending) (w' : World) : Prop := ∃ k cap, e = .returned (.func (.func k) #[] cap) ∧ ClE w' P t (.func (.func k) #[] cap) ∧ Below w.heap.size w w'
def CmE (t : Tr) : Prop := ∀ (S : Nat → Prop) (w : World) (P : Nat) (v : Value), ExAt S w t v → Calls Tryz.prog 138 #[ptr P, v] w (CmP P t w)
theorem nd_openS {S : Nat → Prop} {w : World} {c a n : Int} {nm op : By} {l r g : Tr} {v : Value} (h : ExAt S w (nd c a n nm op l r g) v) :
    ∃ (q : Nat) (vl vr vg : Value) (ys : List Value), v = ptr q ∧ w.heap[q]? = some (.cells #[.int .i64 c, .int .i64 a, .int .i64 n, str nm, str op, vl, vr, vg] 252) ∧ ExAt S w l vl ∧ ExAt S w r vr ∧ w.ownsRow 0 145 1 vg ys.length ys ∧ ExAt S w g (.tuple ys.toArray) := by
  rw [ExAt] at h
  obtain ⟨q, vl, vr, vg, ys, _, h2, h3, h4, h5, h6, _, h8⟩ := h
  exact ⟨q, vl, vr, vg, ys, h2, h3, h4, h5, h6, h8⟩
theorem al1 (w : World) (A B : Obj) : ((w.alloc A).alloc B).heap[w.heap.size]? = some A := row_alloc (heap_alloc_last w A) B
theorem al2 (w : World) (A B : Obj) : ((w.alloc A).alloc B).heap[w.heap.size + 1]? = some B := by
  have := heap_alloc_last (w.alloc A) B
  simpa using this
theorem bel2 (w : World) (A B : Obj) : Below w.heap.size w ((w.alloc A).alloc B) := ((Below.refl _ _).alloc (Nat.le_refl _) _).alloc (by simp) _
theorem mkf : ∀ (fn : Fn) (first cap : Array Value) (w : World), (Instr.makeFunc fn first cap).run Tryz.prog w = .ok (.func fn first cap) w := fun _ _ _ _ => rfl
set_option maxRecDepth 100000 in
set_option maxHeartbeats 2000000 in
theorem cm_num {a n : Int} {nm op : By} {l r g : Tr} : CmE (nd 1 a n nm op l r g) := by
  intro S w P v hx
  obtain ⟨q, vl, vr, vg, ys, rfl, hq, -, -, -, -⟩ := nd_openS hx
  have hmf := mkf
  have c0 := cell_at (i := 0) hq rfl
  have HQ : Hid (w.heap[q]? = some (.cells #[.int .i64 1, .int .i64 a, .int .i64 n, str nm, str op, vl, vr, vg] 252)) := hq
  have hlt : q < w.heap.size := (Array.getElem?_eq_some_iff.1 hq).1
  clear hx hq
  go_enter Tryz.func138, Tryz.ntmps138
  go_wp2
  go_ret
  exact ⟨_, _, rfl, by rw [ClE]; exact .inl ⟨rfl, _, rfl, q, vl, vr, vg, al2 _ _ _, row_alloc (row_alloc HQ.out _) _⟩, bel2 _ _ _⟩
set_option maxRecDepth 100000 in
set_option maxHeartbeats 2000000 in
theorem cm_name {a n : Int} {nm op : By} {l r g : Tr} : CmE (nd 2 a n nm op l r g) := by
  intro S w P v hx
  obtain ⟨q, vl, vr, vg, ys, rfl, hq, -, -, -, -⟩ := nd_openS hx
  have hmf := mkf
  have c0 := cell_at (i := 0) hq rfl
  have HQ : Hid (w.heap[q]? = some (.cells #[.int .i64 2, .int .i64 a, .int .i64 n, str nm, str op, vl, vr, vg] 252)) := hq
  have hlt : q < w.heap.size := (Array.getElem?_eq_some_iff.1 hq).1
  clear hx hq
  go_enter Tryz.func138, Tryz.ntmps138
  go_wp2
  go_ret
  exact ⟨_, _, rfl, by rw [ClE]; exact .inr (.inl ⟨rfl, _, rfl, q, vl, vr, vg, al2 _ _ _, row_alloc (row_alloc HQ.out _) _⟩), bel2 _ _ _⟩
set_option maxRecDepth 100000 in
set_option maxHeartbeats 2000000 in
theorem cm_input {a n : Int} {nm op : By} {l r g : Tr} : CmE (nd 9 a n nm op l r g) := by
  intro S w P v hx
  obtain ⟨q, vl, vr, vg, ys, rfl, hq, -, -, -, -⟩ := nd_openS hx
  have hmf := mkf
  have c0 := cell_at (i := 0) hq rfl
  have HQ : Hid (w.heap[q]? = some (.cells #[.int .i64 9, .int .i64 a, .int .i64 n, str nm, str op, vl, vr, vg] 252)) := hq
  have hlt : q < w.heap.size := (Array.getElem?_eq_some_iff.1 hq).1
  clear hx hq
  go_enter Tryz.func138, Tryz.ntmps138
  go_wp2
  go_ret
  exact ⟨_, _, rfl, by rw [ClE]; exact .inr (.inr (.inr (.inr (.inr (.inr (.inr (.inr ⟨rfl, _, rfl, al1 _ _ _⟩))))))), bel2 _ _ _⟩
/-- What is alike of an expression of one part: its node, that part. -/
theorem part_ptr {S : Nat → Prop} {w : World} {t : Tr} {v : Value} (hn : IsNd t) (h : ExAt S w t v) : ∃ b, v = ptr b := IsNd.ptr hn h
set_option maxRecDepth 100000 in
set_option maxHeartbeats 2000000 in
theorem cm_new {a n : Int} {nm op : By} {l r g : Tr} (hl : CmE l) (hn : IsNd l) : CmE (nd 6 a n nm op l r g) := by
  intro S w P v hx
  obtain ⟨q, vl, vr, vg, ys, rfl, hq, hxl, -, -, -⟩ := nd_openS hx
  obtain ⟨ql, rfl⟩ := part_ptr hn hxl
  have hmf := mkf
  have c0 := cell_at (i := 0) hq rfl
  have c5 := cell_at (i := 5) hq rfl
  have HQ : Hid (w.heap[q]? = some (.cells #[.int .i64 6, .int .i64 a, .int .i64 n, str nm, str op, ptr ql, vr, vg] 252)) := hq
  have hlt : q < w.heap.size := (Array.getElem?_eq_some_iff.1 hq).1
  have HC : Hid (∀ W, Below w.heap.size w W → Calls Tryz.prog 138 #[ptr P, ptr ql] W (CmP P l W)) := fun W hb => hl S W P _ (ex_below hb hxl)
  clear hx hq hxl
  go_enter Tryz.func138, Tryz.ntmps138
  go_wp2_with fail
  obtain ⟨W0, hW0⟩ : ∃ W0, W0 = (w.alloc (.cells #[ptr P] 57)).alloc (.cells #[ptr q] 145) := ⟨_, rfl⟩
  have HB0 : Hid (Below w.heap.size w W0) := by rw [hW0]; exact bel2 _ _ _
  have HS0 : Hid (W0.heap.size = w.heap.size + 2) := by rw [hW0]; simp [Hid]
  have p1 : W0.cell? ⟨w.heap.size, 0, none⟩ = some (ptr P) := by rw [hW0]; exact cell_at (i := 0) (al1 _ _ _) rfl
  have p2 : W0.cell? ⟨w.heap.size + 1, 0, none⟩ = some (ptr q) := by rw [hW0]; exact cell_at (i := 0) (al2 _ _ _) rfl
  have p3 : W0.cell? ⟨q, 5, none⟩ = some (ptr ql) := by rw [hW0]; exact cell_at (i := 5) (row_alloc (row_alloc HQ.out _) _) rfl
  have hz : w.heap.size + 1 < W0.heap.size := by have := HS0.out; omega
  have hz0 : w.heap.size < W0.heap.size := by omega
  have hq0 : q < W0.heap.size := by omega
  have m1 : w.heap.size ≠ W0.heap.size := by omega
  have m2 : w.heap.size + 1 ≠ W0.heap.size := by omega
  have m3 : q ≠ W0.heap.size := by omega
  rw [← hW0]
  clear hW0 c0 c5
  go_region_held3 (fun w' => w'.cell? ⟨w.heap.size, 0, none⟩ = some (ptr P) ∧ w'.cell? ⟨w.heap.size + 1, 0, none⟩ = some (ptr q) ∧ w'.cell? ⟨q, 5, none⟩ = some (ptr ql))
    (first | go_keep | (refine ⟨?_, ?_, ?_⟩ <;> first | (go_simp; done) | (simp [*]; done) | (rw [World.cell?_setCell_other (by intro e; injection e; omega)]; assumption)))
    (first | (go_at_call 138; refine (HC.out _ (by first | exact HB0.out.drew | exact (HB0.out.alloc (by have := HS0.out; omega) _).drew | exact (HB0.out.drew.alloc (by have := HS0.out; simp; omega) _))).mono ?_; rintro e w1 ⟨k1, cp1, rfl, hcl, hb1⟩; have hcc := fun b o h => hb1.cell (p := ⟨b, o, none⟩) h; have hff := fun b o h => hb1.frozen (p := ⟨b, o, none⟩) h; have t1 : w1.cell? ⟨w.heap.size, 0, none⟩ = some (ptr P) := (hcc _ _ (by first | (simp; done) | (simp; omega))).trans (by go_simp); have t2 : w1.cell? ⟨w.heap.size + 1, 0, none⟩ = some (ptr q) := (hcc _ _ (by first | (simp; done) | (simp; omega))).trans (by go_simp); have t3 : w1.cell? ⟨q, 5, none⟩ = some (ptr ql) := (hcc _ _ (by first | (simp; done) | (simp; omega))).trans (by go_simp); have t4 := hb1.size; simp at t4; have u1 : w.heap.size < w1.heap.size := (by omega); have u2 : w.heap.size + 1 < w1.heap.size := (by omega); have u3 : q < w1.heap.size := (by omega)))
  all_goals first
    | (obtain ⟨g1, g2, g3⟩ := late (HB0.out.trans ((undrew hb1).mono HB0.out.size)) hcl; clear hcc hff; have G1 : Hid (_ ∧ _ ∧ _) := ⟨g1, g2, g3⟩; clear g1 g2 g3; go_wp2; go_ret; obtain ⟨g1, g2, g3⟩ := G1.out; exact ⟨_, _, rfl, by rw [ClE]; exact .inr (.inr (.inr (.inr (.inr (.inl ⟨rfl, _, _, rfl, g1, g2⟩))))), g3⟩)
    | (obtain ⟨g1, g2, g3⟩ := early HB0.out (undrew hb1) hcl; clear hcc hff; have G1 : Hid (_ ∧ _ ∧ _) := ⟨g1, g2, g3⟩; clear g1 g2 g3; go_wp2; go_ret; obtain ⟨g1, g2, g3⟩ := G1.out; exact ⟨_, _, rfl, by rw [ClE]; exact .inr (.inr (.inr (.inr (.inr (.inl ⟨rfl, _, _, rfl, g1, g2⟩))))), g3⟩)
/-- A variable that holds a statement (its name). -/
def StmtC (w : World) (bs : Nat) (nm : By) : Prop := ∃ (b o : Nat), w.heap[bs]? = some (.cells #[.pointer (some ⟨b, o, none⟩)] 186) ∧ ∃ cs, w.heap[b]? = some (.cells cs 147) ∧ cs[o + 2]? = some (str nm)
/-- Statements that are ready. -/
def ClB (w : World) (P : Nat) : Tr → List Value → Prop
  | .slice [.agg [.lit (.int _ c), .lit (.int _ a), .lit (.string nm), ix, v, th, el]] [g], us =>
    ∃ (u : Value) (rest : List Value), us = u :: rest ∧ ClB w P g rest ∧
    ((c = 3 ∧ ∃ bi bv bs vi vv, u = .func (.func 185) #[] #[ptr bi, ptr bv, ptr bs] ∧ w.heap[bi]? = some (.cells #[vi] 245) ∧ w.heap[bv]? = some (.cells #[vv] 245) ∧ StmtC w bs nm ∧ ClE w P ix vi ∧ ClE w P v vv) ∨
     (c = 4 ∧ ∃ (bv bt be vt ve : _) (vv : Value) (at' ae pt pe gt' ge : Nat) (ts es : List Value), u = .func (.func 187) #[] #[ptr bv, ptr bt, ptr be] ∧ w.heap[bv]? = some (.cells #[vv] 245) ∧ w.heap[bt]? = some (.cells #[vt] 67) ∧ w.heap[be]? = some (.cells #[ve] 67) ∧ ClE w P v vv ∧
        vt = .func (.func 87) #[] #[ptr at', ptr pt] ∧ w.heap[at']? = some (.cells #[.slice (some ⟨gt', 0, none⟩) ts.length ts.length] 184) ∧ w.heap[gt']? = some (.cells ts.toArray 67) ∧ w.heap[pt]? = some (.cells #[ptr P] 57) ∧ ClB w P th ts ∧
        ve = .func (.func 87) #[] #[ptr ae, ptr pe] ∧ w.heap[ae]? = some (.cells #[.slice (some ⟨ge, 0, none⟩) es.length es.length] 184) ∧ w.heap[ge]? = some (.cells es.toArray 67) ∧ w.heap[pe]? = some (.cells #[ptr P] 57) ∧ ClB w P el es) ∨
     (c = 5 ∧ ∃ (bv bt bp : Nat) (vv vt : Value) (at' pt gt' : Nat) (ts : List Value), u = .func (.func 188) #[] #[ptr bv, ptr bt, ptr bp] ∧ w.heap[bv]? = some (.cells #[vv] 245) ∧ w.heap[bt]? = some (.cells #[vt] 67) ∧ w.heap[bp]? = some (.cells #[ptr P] 57) ∧ ClE w P v vv ∧
        vt = .func (.func 87) #[] #[ptr at', ptr pt] ∧ w.heap[at']? = some (.cells #[.slice (some ⟨gt', 0, none⟩) ts.length ts.length] 184) ∧ w.heap[gt']? = some (.cells ts.toArray 67) ∧ w.heap[pt]? = some (.cells #[ptr P] 57) ∧ ClB w P th ts) ∨
     (c = 6 ∧ ∃ bv vv, u = .func (.func 139) #[] #[ptr bv] ∧ w.heap[bv]? = some (.cells #[vv] 245) ∧ ClE w P v vv) ∨
     (c = 7 ∧ ∃ bp bv vv, u = .func (.func 140) #[] #[ptr bp, ptr bv] ∧ w.heap[bp]? = some (.cells #[ptr P] 57) ∧ w.heap[bv]? = some (.cells #[vv] 245) ∧ ClE w P v vv) ∨
     (c = 8 ∧ ∃ bv vv, u = .func (.func 142) #[] #[ptr bv] ∧ w.heap[bv]? = some (.cells #[vv] 245) ∧ ClE w P v vv) ∨
     ((c = 1 ∨ c = 2) ∧ ∃ bv bs vv, u = .func (.func 143) #[] #[ptr bv, ptr bs] ∧ w.heap[bv]? = some (.cells #[vv] 245) ∧ StmtC w bs nm ∧ ClE w P v vv))
  | .slice [] [], us => us = []
  | _, _ => False
/-- A block that is ready. -/
def BlV (w : World) (P : Nat) (t : Tr) (v : Value) : Prop := ∃ (a p g : Nat) (ts : List Value), v = .func (.func 87) #[] #[ptr a, ptr p] ∧ w.heap[a]? = some (.cells #[.slice (some ⟨g, 0, none⟩) ts.length ts.length] 184) ∧ w.heap[g]? = some (.cells ts.toArray 67) ∧ w.heap[p]? = some (.cells #[ptr P] 57) ∧ ClB w P t ts
/-- Such a function is entered. -/
def Ent (k : Nat) : Prop := ∀ (args : Array Value) (w : World), (callFunc k args).run Tryz.prog w = .ok (.enter k args) w
theorem ent87 : Ent 87 := fun args w => by kernel_rfl
theorem ent139 : Ent 139 := fun args w => by kernel_rfl
theorem ent140 : Ent 140 := fun args w => by kernel_rfl
theorem ent142 : Ent 142 := fun args w => by kernel_rfl
theorem ent143 : Ent 143 := fun args w => by kernel_rfl
theorem ent185 : Ent 185 := fun args w => by kernel_rfl
theorem ent187 : Ent 187 := fun args w => by kernel_rfl
theorem ent188 : Ent 188 := fun args w => by kernel_rfl
theorem ent189 : Ent 189 := fun args w => by kernel_rfl
theorem ent193 : Ent 193 := fun args w => by kernel_rfl
theorem ent195 : Ent 195 := fun args w => by kernel_rfl
theorem ent197 : Ent 197 := fun args w => by kernel_rfl
theorem ent198 : Ent 198 := fun args w => by kernel_rfl
theorem ent200 : Ent 200 := fun args w => by kernel_rfl
theorem ent222 : Ent 222 := fun args w => by kernel_rfl
theorem ent224 : Ent 224 := fun args w => by kernel_rfl
theorem ent225 : Ent 225 := fun args w => by kernel_rfl
theorem ent227 : Ent 227 := fun args w => by kernel_rfl
theorem ent228 : Ent 228 := fun args w => by kernel_rfl
theorem ent229 : Ent 229 := fun args w => by kernel_rfl
/-- A program that goes: the world in which it was made ready, its block, its functions. -/
structure Cx where
  w0 : World
  P : Nat
  fv : Value
  fs : By → Option Fun
/-- Calls have what functions ask for. -/
def cokE (fs : By → Option Fun) : Tr → Prop
  | .agg [.lit (.int _ c), .lit (.int _ _), .lit (.int _ _), .lit (.string nm), .lit (.string _), l, r, xs] => nm.length ≤ 1000000 ∧ cokE fs l ∧ cokE fs r ∧ cokE fs xs ∧ (c = 5 → ∃ F, fs nm = some F ∧ F.ps.length = chl xs)
  | .slice [x] [g] => cokE fs x ∧ cokE fs g
  | _ => True
def cokB (fs : By → Option Fun) : Tr → Prop
  | .slice [.agg [.lit (.int _ _), .lit (.int _ _), .lit (.string nm), ix, v, th, el]] [g] => nm.length ≤ 1000000 ∧ cokE fs ix ∧ cokE fs v ∧ cokB fs th ∧ cokB fs el ∧ cokB fs g
  | _ => True
/-- How a part ends that ends the program. -/
def Ends9 (r : Rs) (out : List Int) (k : Int) (e : Ending) : Prop := r.s.out = out ∧ ∃ older : List PanicEntry, e = .panicked ({ v := .iface 61 (.int .i64 k), recovered := false } :: older) ∧ ∀ z ∈ older, z.goexit = false
/-- What an expression leaves. -/
def EP (X : Cx) (w : World) (r : Rs) (d : Nat) (x : Except (Int × List Int) (Vl × Sg)) (e : Ending) (w' : World) : Prop :=
  ∃ r', St X.w0 X.P X.fv w' r' d ∧ Fz X.P NoE w r w' r' ∧
    ((∃ y p l c, x = .ok (y, r'.s) ∧ e = .returned (vlA y.1 (.slice p l c)) ∧ QvS r'.ab y.2 (.slice p l c)) ∨ (∃ k out, x = .error (k, out) ∧ Ends9 r' out k e))
/-- What a statement leaves. -/
def SP (X : Cx) (w : World) (r : Rs) (d M K : Nat) (x : Except (Int × List Int) ((Option Int × Own) × Sg)) (e : Ending) (w' : World) : Prop :=
  ∃ r', St X.w0 X.P X.fv w' r' d ∧ Fz X.P (fun b => b = M) w r w' r' ∧
    ((∃ o' n', x = .ok ((none, o'), r'.s) ∧ e = .returned (.tuple #[]) ∧ OwS w' M n' r'.ab o' ∧ n' + r'.s.fuel ≤ K) ∨ (∃ z o', x = .ok ((some z, o'), r'.s) ∧ e = toldE z) ∨ (∃ k out, x = .error (k, out) ∧ Ends9 r' out k e))
/-- A closure is called, with names. -/
def Cal (v : Value) (M : Nat) (w : World) (Q : Ending → World → Prop) : Prop := ∃ k cap, v = .func (.func k) #[] cap ∧ Ent k ∧ Calls Tryz.prog k (#[.map (some M)] ++ cap) w Q
def GoE (X : Cx) (g : Nat) (t : Tr) (v : Value) : Prop := ∀ (w : World) (r : Rs) (d M n : Nat) (o : Own), St X.w0 X.P X.fv w r d → OwS w M n r.ab o → (∀ out, evE X.fs g d o t r.s ≠ .error (99, out)) → Cal v M w (EP X w r d (evE X.fs g d o t r.s))
end Go.Proofs.YtnfhpdbbfejioaaGreatDoor
