/- GB GC GG HA GD -/
import Derived.Test.YtnfhpdbbfejioaaGreatDoorQ17
import Derived.Deep.RegionHeld3
import Derived.Laws.EntriesVeiled
namespace Go.Proofs.YtnfhpdbbfejioaaGreatDoor
set_option linter.unusedVariables false
set_option linter.unusedSimpArgs false
set_option maxRecDepth 100000
set_option maxHeartbeats 4000000
open Go Go.RowKit
abbrev ints (l : List Int) : List Value := l.map (.int .i64)
structure Rs where
 ab : List (Nat × Nat)
 iv : Value
 ov : Value
 s : Sg
def Xs (P : Nat) (r : Rs) (b : Nat) : Prop := b = P ∨ b ∈ r.ab.map (·.1) ∨ r.ov.ownBlock = some b
def InS (w0 : World) (P : Nat) (iv : Value) (l : List Int) : Prop :=
 ∃ q c, iv = .slice q l.length c ∧ (l = [] ∨ ∃ g o, q = some ⟨g, o, none⟩ ∧ g < w0.heap.size ∧ g ≠ P ∧ l.length ≤ c ∧ ∀ j x, l[j]? = some x → w0.cell? ⟨g, o + j, none⟩ = some (.int .i64 x))
structure St (w0 : World) (P : Nat) (fv : Value) (w : World) (r : Rs) (d : Nat) : Prop where
 lt : P < w0.heap.size
 le : w0.heap.size ≤ w.heap.size
 kp : ∀ b, b < w0.heap.size → b ≠ P → w.heap[b]? = w0.heap[b]?
 pb : w.heap[P]? = some (.cells #[fv, r.iv, r.ov, .int .i64 (r.s.fuel : Int), .int .i64 (d : Int)] 60)
 inp : InS w0 P r.iv r.s.inp
 out : w.ownsRow w0.heap.size 2 1 r.ov r.s.out.length (ints r.s.out)
 apart : ∀ i, r.ov.ownBlock = some i → i ∉ r.ab.map (·.1)
 alen : r.ab.length = r.s.hp.length
 arr : ∀ (i b n : Nat), r.ab[i]? = some (b, n) → ∃ l, r.s.hp[i]? = some l ∧ l.length = n ∧ n ≤ 40 ∧ w.heap[b]? = some (.cells (ints l).toArray 2)
 lo : ∀ b ∈ r.ab.map (·.1), w0.heap.size ≤ b
 nd : (r.ab.map (·.1)).Nodup
 few : r.s.fuel ≤ 1000000
 told : r.s.out.length ≤ 200
 deep : d ≤ 40
structure Fz (P : Nat) (E : Nat → Prop) (w : World) (r : Rs) (w' : World) (r' : Rs) : Prop where
 os : w'.os = w.os
 tape : w'.tape = w.tape
 output : w'.output = w.output
 size : w.heap.size ≤ w'.heap.size
 blk : ∀ b, b < w.heap.size → ¬ Xs P r b → ¬ E b → w'.heap[b]? = w.heap[b]?
 pre : r.ab <+: r'.ab
 new : ∀ b, Xs P r' b → ¬ Xs P r b → w.heap.size ≤ b
abbrev NoE : Nat → Prop := fun _ => False
theorem Fz.refl (P : Nat) (E : Nat → Prop) (w : World) (r : Rs) : Fz P E w r w r := ⟨rfl, rfl, rfl, Nat.le_refl _, fun _ _ _ _ => rfl, List.prefix_rfl, fun b h1 h2 => absurd h1 h2⟩
theorem Fz.trans {P : Nat} {E : Nat → Prop} {w1 w2 w3 : World} {r1 r2 r3 : Rs} (h : Fz P E w1 r1 w2 r2) (g : Fz P E w2 r2 w3 r3) : Fz P E w1 r1 w3 r3 := by
 refine ⟨g.os.trans h.os, g.tape.trans h.tape, g.output.trans h.output, Nat.le_trans h.size g.size, fun b hb hx he => ?_, h.pre.trans g.pre, fun b h3 h1 => ?_⟩
 ·rw [g.blk b (Nat.lt_of_lt_of_le hb h.size) (fun h2 => by have := h.new b h2 hx; omega) he, h.blk b hb hx he]
 ·by_cases h2 : Xs P r2 b
  ·exact h.new b h2 h1
  ·exact Nat.le_trans h.size (g.new b h3 h2)
theorem Fz.wide {P : Nat} {E E' : Nat → Prop} {w w' : World} {r r' : Rs} (h : Fz P E w r w' r') (hE : ∀ b, E b → E' b) : Fz P E' w r w' r' := ⟨h.os, h.tape, h.output, h.size, fun b hb hx he => h.blk b hb hx (fun e => he (hE b e)), h.pre, h.new⟩
theorem Fz.no {P : Nat} {E : Nat → Prop} {w w' : World} {r r' : Rs} (h : Fz P NoE w r w' r') : Fz P E w r w' r' := h.wide (fun _ h => h.elim)
theorem Fz.below {P : Nat} {E : Nat → Prop} {w w' : World} {r : Rs} (h : Below w.heap.size w w') : Fz P E w r w' r := ⟨h.os, h.tape, h.output, h.size, fun b hb _ _ => h.block b hb, List.prefix_rfl, fun b h1 h2 => absurd h1 h2⟩
theorem own_at {w w' : World} {B e z n : Nat} {v : Value} {ys : List Value} (h : w.ownsRow B e z v n ys) (hk : ∀ i, v.ownBlock = some i → w'.heap[i]? = w.heap[i]?) : w'.ownsRow B e z v n ys := by
 refine ⟨h.1, ?_⟩
 rcases h.2 with hh | ⟨g', cap, cur, hv, hb, hg, rest⟩
 ·exact .inl hh
 ·exact .inr ⟨g', cap, cur, hv, hb, by rw [hk g' (by rw [hv]; rfl)]; exact hg, rest⟩
theorem St.below {w0 : World} {P : Nat} {fv : Value} {w w' : World} {r : Rs} {d : Nat} (h : St w0 P fv w r d) (hb : Below w.heap.size w w') : St w0 P fv w' r d := by
 have hP := Nat.lt_of_lt_of_le h.lt h.le
 refine ⟨h.lt, Nat.le_trans h.le hb.size, fun b h1 h2 => ?_, ?_, h.inp, own_at h.out (fun i hi => hb.block i (own_lt h.out i hi)), h.apart, h.alen, fun i b n hi => ?_, h.lo, h.nd, h.few, h.told, h.deep⟩
 ·rw [hb.block b (Nat.lt_of_lt_of_le h1 h.le)]; exact h.kp b h1 h2
 ·rw [hb.block P hP]; exact h.pb
 ·obtain ⟨l, a1, a2, a3, a4⟩ := h.arr i b n hi
  exact ⟨l, a1, a2, a3, by rw [hb.block b (Array.getElem?_eq_some_iff.1 a4).1]; exact a4⟩
theorem St.ltP {w0 : World} {P : Nat} {fv : Value} {w : World} {r : Rs} {d : Nat} (h : St w0 P fv w r d) : P < w.heap.size := Nat.lt_of_lt_of_le h.lt h.le
theorem St.old {w0 : World} {P : Nat} {fv : Value} {w : World} {r : Rs} {d : Nat} (h : St w0 P fv w r d) {b : Nat} {cs : Array Value} {t : TypeId} (hb : w0.heap[b]? = some (.cells cs t)) (hP : ∃ ds, w0.heap[P]? = some (.cells ds 60)) (ht : t ≠ 60) : w.heap[b]? = some (.cells cs t) := by
 obtain ⟨ds, hd⟩ := hP
 rw [h.kp b (Array.getElem?_eq_some_iff.1 hb).1 (fun e => ?_), hb]
 subst e
 rw [hd] at hb
 injection hb with hb
 injection hb with _ h2
 exact ht h2.symm
def QvS (ab : List (Nat × Nat)) : Option Nat → Value → Prop
 | none, v => v = .slice none 0 0
 | some i, v => ∃ b n, ab[i]? = some (b, n) ∧ v = .slice (some ⟨b, 0, none⟩) n n
def VlS (ab : List (Nat × Nat)) (x : Vl) (v : Value) : Prop := ∃ q, v = vlA x.1 q ∧ QvS ab x.2 q
theorem pre_get {α : Type} {a b : List α} (h : a <+: b) {i : Nat} {x : α} (hx : a[i]? = some x) : b[i]? = some x := by
 obtain ⟨c, rfl⟩ := h
 rw [List.getElem?_append_left (List.getElem?_eq_some_iff.1 hx).1]
 exact hx
theorem QvS.mono {a b : List (Nat × Nat)} (h : a <+: b) {i : Option Nat} {v : Value} (hv : QvS a i v) : QvS b i v := by
 cases i with
 | none => exact hv
 | some i =>
  obtain ⟨k, n, h1, h2⟩ := hv
  exact ⟨k, n, pre_get h h1, h2⟩
theorem VlS.mono {a b : List (Nat × Nat)} (h : a <+: b) {x : Vl} {v : Value} (hv : VlS a x v) : VlS b x v := by
 obtain ⟨q, h1, h2⟩ := hv
 exact ⟨q, h1, h2.mono h⟩
def OwS (w : World) (M n : Nat) (ab : List (Nat × Nat)) (o : Own) : Prop := ∃ f, MapV w M n f ∧ ∀ nm, VlS ab (own1 o nm) ((f nm).getD (vlA 0 (.slice none 0 0)))
theorem OwS.keeps {P : Nat} {w w' : World} {r r' : Rs} {M n : Nat} {o : Own} {w0 : World} {fv : Value} {d : Nat} (h : OwS w M n r.ab o) (hs : St w0 P fv w r d) (hf : Fz P NoE w r w' r') : OwS w' M n r'.ab o := by
 obtain ⟨f, h1, h2⟩ := h
 obtain ⟨es, clock, ho⟩ := h1.obj
 refine ⟨f, h1.kept (hf.blk M h1.lt (fun hx => ?_) (fun e => e)), fun nm => (h2 nm).mono hf.pre⟩
 rcases hx with rfl | hx | hx
 ·rw [hs.pb] at ho; cases ho
 ·obtain ⟨p, hp, rfl⟩ := List.mem_map.1 hx
  obtain ⟨i, hi⟩ := List.getElem?_of_mem hp
  obtain ⟨l, _, _, _, a4⟩ := hs.arr i p.1 p.2 hi
  rw [a4] at ho; cases ho
 ·rcases hs.out.2 with ⟨hv, _⟩ | ⟨g, cap, cur, hv, hb, hg, _⟩
  ·rw [hv] at hx; cases hx
  ·rw [hv] at hx
   have : g = M := by injection hx
   subst this
   rw [hg] at ho; cases ho
abbrev ptr (b : Nat) : Value := .pointer (some ⟨b, 0, none⟩)
def NodeC (w : World) (bx : Nat) (c a n : Int) (nm op : By) : Prop := ∃ (b : Nat) (vl vr vg : Value), w.heap[bx]? = some (.cells #[ptr b] 145) ∧ w.heap[b]? = some (.cells #[.int .i64 c, .int .i64 a, .int .i64 n, str nm, str op, vl, vr, vg] 252)
def ClE (w : World) (P : Nat) : Tr → Value → Prop
 | .agg [.lit (.int _ c), .lit (.int _ a), .lit (.int _ n), .lit (.string nm), .lit (.string op), l, r, xs], v =>
  (c = 1 ∧ ∃ bx, v = .func (.func 200) #[] #[ptr bx] ∧ NodeC w bx c a n nm op) ∨
  (c = 2 ∧ ∃ bx, v = .func (.func 189) #[] #[ptr bx] ∧ NodeC w bx c a n nm op) ∨
  (c = 3 ∧ ∃ bx bl br vl vr, v = (if op = [38, 38] then .func (.func 222) #[] #[ptr bl, ptr br] else if op = [124, 124] then .func (.func 224) #[] #[ptr bl, ptr br] else .func (.func 225) #[] #[ptr bl, ptr bx, ptr br]) ∧ NodeC w bx c a n nm op ∧ w.heap[bl]? = some (.cells #[vl] 245) ∧ w.heap[br]? = some (.cells #[vr] 245) ∧ ClE w P l vl ∧ ClE w P r vr) ∨
  (c = 4 ∧ ∃ bl vl, v = (if op = [45] then .func (.func 227) #[] #[ptr bl] else .func (.func 228) #[] #[ptr bl]) ∧ w.heap[bl]? = some (.cells #[vl] 245) ∧ ClE w P l vl) ∨
  (c = 5 ∧ ∃ (bp bx ba g : Nat) (ys : List Value), v = .func (.func 229) #[] #[ptr bp, ptr bx, ptr ba] ∧ w.heap[bp]? = some (.cells #[ptr P] 57) ∧ NodeC w bx c a n nm op ∧ w.heap[ba]? = some (.cells #[.slice (some ⟨g, 0, none⟩) ys.length ys.length] 297) ∧ w.heap[g]? = some (.cells ys.toArray 245) ∧ ClE w P xs (.tuple ys.toArray)) ∨
  (c = 6 ∧ ∃ bl vl, v = .func (.func 193) #[] #[ptr bl] ∧ w.heap[bl]? = some (.cells #[vl] 245) ∧ ClE w P l vl) ∨
  (c = 7 ∧ ∃ bl vl, v = .func (.func 195) #[] #[ptr bl] ∧ w.heap[bl]? = some (.cells #[vl] 245) ∧ ClE w P l vl) ∨
  (c = 8 ∧ ∃ bl br vl vr, v = .func (.func 197) #[] #[ptr bl, ptr br] ∧ w.heap[bl]? = some (.cells #[vl] 245) ∧ w.heap[br]? = some (.cells #[vr] 245) ∧ ClE w P l vl ∧ ClE w P r vr) ∨
  (c = 9 ∧ ∃ bp, v = .func (.func 198) #[] #[ptr bp] ∧ w.heap[bp]? = some (.cells #[ptr P] 57))
 | .slice [x] [g], v => ∃ (y : Value) (ys : List Value), v = .tuple (y :: ys).toArray ∧ ClE w P x y ∧ ClE w P g (.tuple ys.toArray)
 | .slice [] [], v => v = .tuple #[]
 | _, _ => False
def Ks (w w' : World) : Prop := ∀ (b : Nat) (cs : Array Value) (t : TypeId), t ≠ 60 → ((t = 245 ∨ t = 67) → Value.nilFunc ∉ cs) → w.heap[b]? = some (.cells cs t) → w'.heap[b]? = some (.cells cs t)
theorem Ks.below {w w' : World} (h : Below w.heap.size w w') : Ks w w' := fun b cs t _ _ hb => by rw [h.block b (Array.getElem?_eq_some_iff.1 hb).1]; exact hb
theorem ClE.isf {w : World} {P : Nat} {t : Tr} {v : Value} (h : ClE w P t v) : v ≠ .nilFunc := by
 unfold ClE at h
 split at h
 ·rcases h with ⟨_, bx, rfl, _⟩ | ⟨_, bx, rfl, _⟩ | ⟨_, bx, bl, br, vl, vr, rfl, _⟩ | ⟨_, bl, vl, rfl, _⟩ | ⟨_, bp, bx, ba, g, ys, rfl, _⟩ | ⟨_, bl, vl, rfl, _⟩ | ⟨_, bl, vl, rfl, _⟩ | ⟨_, bl, br, vl, vr, rfl, _⟩ | ⟨_, bp, rfl, _⟩
  all_goals (repeat' split) <;> simp
 ·obtain ⟨y, ys, rfl, _⟩ := h
  simp
 ·rw [h]; simp
 ·exact h.elim
theorem ClE.row {w : World} {P : Nat} : ∀ (t : Tr) {ys : List Value}, ClE w P t (.tuple ys.toArray) → Value.nilFunc ∉ ys.toArray := fun t ys h => by
 unfold ClE at h
 split at h
 ·rcases h with ⟨_, bx, e, _⟩ | ⟨_, bx, e, _⟩ | ⟨_, bx, bl, br, vl, vr, e, _⟩ | ⟨_, bl, vl, e, _⟩ | ⟨_, bp, bx, ba, g, ys, e, _⟩ | ⟨_, bl, vl, e, _⟩ | ⟨_, bl, vl, e, _⟩ | ⟨_, bl, br, vl, vr, e, _⟩ | ⟨_, bp, e, _⟩
  all_goals (repeat' split at e) <;> simp at e
 ·rename_i x g
  obtain ⟨y, ys', e, h2, h3⟩ := h
  have e' : ys = y :: ys' := by simpa using e
  subst e'
  have := ClE.row g h3
  simp only [List.mem_toArray, List.mem_cons, not_or] at this ⊢
  exact ⟨fun e => h2.isf e.symm, this⟩
 ·have e' : ys = [] := by simpa using h
  subst e'
  simp
 ·exact h.elim
theorem NodeC.kept {w w' : World} (h : Ks w w') {bx : Nat} {c a n : Int} {nm op : By} (hn : NodeC w bx c a n nm op) : NodeC w' bx c a n nm op := by
 obtain ⟨b, vl, vr, vg, h1, h2⟩ := hn
 exact ⟨b, vl, vr, vg, h _ _ _ (by decide) (fun e => absurd e (by decide)) h1, h _ _ _ (by decide) (fun e => absurd e (by decide)) h2⟩
theorem ClE.kept {w w' : World} {P : Nat} (h1 : Ks w w') (t : Tr) (v : Value) (h : ClE w P t v) : ClE w' P t v := by
 unfold ClE at h
 split at h
 ·rename_i c _ a _ n nm op l r xs
  have il := ClE.kept h1 (P := P) l
  have ir := ClE.kept h1 (P := P) r
  have ix := ClE.kept h1 (P := P) xs
  have k : ∀ (b : Nat) (v : Value) (t : TypeId), t ≠ 60 → v ≠ .nilFunc → w.heap[b]? = some (.cells #[v] t) → w'.heap[b]? = some (.cells #[v] t) := fun b v t ht hv hb => h1 _ _ _ ht (fun _ => by simpa using fun e => hv e.symm) hb
  rw [ClE]
  rcases h with ⟨e, bx, e1, e2⟩ | ⟨e, bx, e1, e2⟩ | ⟨e, bx, bl, br, vl, vr, e1, e2, e3, e4, e5, e6⟩ | ⟨e, bl, vl, e1, e2, e3⟩ | ⟨e, bp, bx, ba, g, ys, e1, e2, e3, e4, e5, e6⟩ | ⟨e, bl, vl, e1, e2, e3⟩ | ⟨e, bl, vl, e1, e2, e3⟩ | ⟨e, bl, br, vl, vr, e1, e3, e4, e5, e6⟩ | ⟨e, bp, e1, e2⟩
  ·exact .inl ⟨e, bx, e1, e2.kept h1⟩
  ·exact .inr (.inl ⟨e, bx, e1, e2.kept h1⟩)
  ·exact .inr (.inr (.inl ⟨e, bx, bl, br, vl, vr, e1, e2.kept h1, k _ _ _ (by decide) e5.isf e3, k _ _ _ (by decide) e6.isf e4, il _ e5, ir _ e6⟩))
  ·exact .inr (.inr (.inr (.inl ⟨e, bl, vl, e1, k _ _ _ (by decide) e3.isf e2, il _ e3⟩)))
  ·exact .inr (.inr (.inr (.inr (.inl ⟨e, bp, bx, ba, g, ys, e1, k _ _ _ (by decide) (by simp) e2, e3.kept h1, k _ _ _ (by decide) (by simp) e4, h1 _ _ _ (by decide) (fun _ => ClE.row _ e6) e5, ix _ e6⟩))))
  ·exact .inr (.inr (.inr (.inr (.inr (.inl ⟨e, bl, vl, e1, k _ _ _ (by decide) e3.isf e2, il _ e3⟩)))))
  ·exact .inr (.inr (.inr (.inr (.inr (.inr (.inl ⟨e, bl, vl, e1, k _ _ _ (by decide) e3.isf e2, il _ e3⟩))))))
  ·exact .inr (.inr (.inr (.inr (.inr (.inr (.inr (.inl ⟨e, bl, br, vl, vr, e1, k _ _ _ (by decide) e5.isf e3, k _ _ _ (by decide) e6.isf e4, il _ e5, ir _ e6⟩)))))))
  ·exact .inr (.inr (.inr (.inr (.inr (.inr (.inr (.inr ⟨e, bp, e1, k _ _ _ (by decide) (by simp) e2⟩)))))))
 ·obtain ⟨y, ys, e1, e2, e3⟩ := h
  rw [ClE]
  exact ⟨y, ys, e1, ClE.kept h1 _ _ e2, ClE.kept h1 _ _ e3⟩
 ·rw [ClE]; exact h
 ·exact h.elim
theorem ClE.below {w w' : World} {P : Nat} {t : Tr} {v : Value} (h : ClE w P t v) (hb : Below w.heap.size w w') : ClE w' P t v := ClE.kept (Ks.below hb) t v h
theorem zD {S : Nat → Prop} {w w' : World} (hb : Below w.heap.size w w') {t : Tr} {v : Value} (h : ExAt S w t v) : ExAt S w' t v := ExAt.kept (fun b cs t _ _ hk => by rw [hb.block b (Array.getElem?_eq_some_iff.1 hk).1]; exact hk) t v h
theorem Ks.set' {w : World} {b i : Nat} {cs0 : Array Value} {t : TypeId} {v : Value} (ht : t = 245 ∨ t = 67) (hb : w.heap[b]? = some (.cells cs0 t)) (h0 : Value.nilFunc ∈ cs0) : Ks w (w.setCell ⟨b, i, none⟩ v) := fun b' cs t' _ hc hk => by
 have hne : b' ≠ b := fun e => by
  subst e
  rw [hb] at hk
  injection hk with hk
  injection hk with h1 h2
  subst h1
  subst h2
  exact hc ht h0
 rw [heap_setCell_other _ _ _ _ hne]
 exact hk
theorem Ks.set {w : World} {b : Nat} {t : TypeId} {v : Value} (hb : w.heap[b]? = some (.cells #[.nilFunc] t)) (ht : t = 245 ∨ t = 67 := by decide) : Ks w (w.setCell ⟨b, 0, none⟩ v) := Ks.set' ht hb (by simp)
theorem zu {B : Nat} {a b : World} (h : Below B a.drew b) : Below B a b := ⟨h.os, h.tape, h.output, h.size, h.block⟩
theorem late {w w1 : World} {P : Nat} {l : Tr} {u : Value} (hb : Below w.heap.size w w1) (hcl : ClE w1 P l u) : (w1.alloc (.cells #[u] 245)).heap[w1.heap.size]? = some (.cells #[u] 245) ∧ ClE (w1.alloc (.cells #[u] 245)) P l u ∧ Below w.heap.size w (w1.alloc (.cells #[u] 245)) :=
 ⟨heap_alloc_last _ _, hcl.below ((Below.refl _ _).alloc (Nat.le_refl _) _), hb.alloc hb.size _⟩
theorem early {w W0 w1 : World} {P : Nat} {l : Tr} {u : Value} (hb : Below w.heap.size w W0) (hb1 : Below (W0.alloc (.cells #[.nilFunc] 245)).heap.size (W0.alloc (.cells #[.nilFunc] 245)) w1) (hcl : ClE w1 P l u) : (w1.setCell ⟨W0.heap.size, 0, none⟩ u).heap[W0.heap.size]? = some (.cells #[u] 245) ∧ ClE (w1.setCell ⟨W0.heap.size, 0, none⟩ u) P l u ∧ Below w.heap.size w (w1.setCell ⟨W0.heap.size, 0, none⟩ u) := by
 have h0 : w1.heap[W0.heap.size]? = some (.cells #[.nilFunc] 245) := by rw [hb1.block _ (by simp)]; exact heap_alloc_last _ _
 exact ⟨heap_setCell_same _ _ _ _ _ _ h0, ClE.kept (Ks.set h0) _ _ hcl, ((hb.alloc hb.size _).trans (hb1.mono (by have := hb.size; simp; omega))).setCell (p := ⟨W0.heap.size, 0, none⟩) hb.size _⟩
def CmP (P : Nat) (t : Tr) (w : World) (e : Ending) (w' : World) : Prop := ∃ k cap, e = .returned (.func (.func k) #[] cap) ∧ ClE w' P t (.func (.func k) #[] cap) ∧ Below w.heap.size w w'
def CmE (t : Tr) : Prop := ∀ (S : Nat → Prop) (w : World) (P : Nat) (v : Value), ExAt S w t v → Calls Tryz.prog 138 #[ptr P, v] w (CmP P t w)
theorem qH {S : Nat → Prop} {w : World} {c a n : Int} {nm op : By} {l r g : Tr} {v : Value} (h : ExAt S w (nd c a n nm op l r g) v) :
  ∃ (q : Nat) (vl vr vg : Value) (ys : List Value), v = ptr q ∧ w.heap[q]? = some (.cells #[.int .i64 c, .int .i64 a, .int .i64 n, str nm, str op, vl, vr, vg] 252) ∧ ExAt S w l vl ∧ ExAt S w r vr ∧ w.ownsRow 0 145 1 vg ys.length ys ∧ ExAt S w g (.tuple ys.toArray) := by
 rw [ExAt] at h
 obtain ⟨q, vl, vr, vg, ys, _, h2, h3, h4, h5, h6, _, h8⟩ := h
 exact ⟨q, vl, vr, vg, ys, h2, h3, h4, h5, h6, h8⟩
theorem al1 (w : World) (A B : Obj) : ((w.alloc A).alloc B).heap[w.heap.size]? = some A := zc (heap_alloc_last w A) B
theorem al2 (w : World) (A B : Obj) : ((w.alloc A).alloc B).heap[w.heap.size + 1]? = some B := by
 have := heap_alloc_last (w.alloc A) B
 simpa using this
theorem jo (w : World) (A B : Obj) : Below w.heap.size w ((w.alloc A).alloc B) := ((Below.refl _ _).alloc (Nat.le_refl _) _).alloc (by simp) _
theorem mkf : ∀ (fn : Fn) (first cap : Array Value) (w : World), (Instr.makeFunc fn first cap).run Tryz.prog w = .ok (.func fn first cap) w := fun _ _ _ _ => rfl
theorem cm_num {a n : Int} {nm op : By} {l r g : Tr} : CmE (nd 1 a n nm op l r g) := by
 intro S w P v hx
 obtain ⟨q, vl, vr, vg, ys, rfl, hq, -, -, -, -⟩ := qH hx
 have hmf := mkf
 have c0 := z_ (i := 0) hq rfl
 have HQ : Hid (w.heap[q]? = some (.cells #[.int .i64 1, .int .i64 a, .int .i64 n, str nm, str op, vl, vr, vg] 252)) := hq
 have hlt : q < w.heap.size := (Array.getElem?_eq_some_iff.1 hq).1
 clear hx hq
 go_enter Tryz.func138, Tryz.ntmps138
 go_wp2
 go_ret
 exact ⟨_, _, rfl, by rw [ClE]; exact .inl ⟨rfl, _, rfl, q, vl, vr, vg, al2 _ _ _, zc (zc HQ.out _) _⟩, jo _ _ _⟩
theorem cm_name {a n : Int} {nm op : By} {l r g : Tr} : CmE (nd 2 a n nm op l r g) := by
 intro S w P v hx
 obtain ⟨q, vl, vr, vg, ys, rfl, hq, -, -, -, -⟩ := qH hx
 have hmf := mkf
 have c0 := z_ (i := 0) hq rfl
 have HQ : Hid (w.heap[q]? = some (.cells #[.int .i64 2, .int .i64 a, .int .i64 n, str nm, str op, vl, vr, vg] 252)) := hq
 have hlt : q < w.heap.size := (Array.getElem?_eq_some_iff.1 hq).1
 clear hx hq
 go_enter Tryz.func138, Tryz.ntmps138
 go_wp2
 go_ret
 exact ⟨_, _, rfl, by rw [ClE]; exact .inr (.inl ⟨rfl, _, rfl, q, vl, vr, vg, al2 _ _ _, zc (zc HQ.out _) _⟩), jo _ _ _⟩
theorem cm_input {a n : Int} {nm op : By} {l r g : Tr} : CmE (nd 9 a n nm op l r g) := by
 intro S w P v hx
 obtain ⟨q, vl, vr, vg, ys, rfl, hq, -, -, -, -⟩ := qH hx
 have hmf := mkf
 have c0 := z_ (i := 0) hq rfl
 have HQ : Hid (w.heap[q]? = some (.cells #[.int .i64 9, .int .i64 a, .int .i64 n, str nm, str op, vl, vr, vg] 252)) := hq
 have hlt : q < w.heap.size := (Array.getElem?_eq_some_iff.1 hq).1
 clear hx hq
 go_enter Tryz.func138, Tryz.ntmps138
 go_wp2
 go_ret
 exact ⟨_, _, rfl, by rw [ClE]; exact .inr (.inr (.inr (.inr (.inr (.inr (.inr (.inr ⟨rfl, _, rfl, al1 _ _ _⟩))))))), jo _ _ _⟩
theorem q_ {S : Nat → Prop} {w : World} {t : Tr} {v : Value} (hn : IsNd t) (h : ExAt S w t v) : ∃ b, v = ptr b := IsNd.ptr hn h
theorem cm_new {a n : Int} {nm op : By} {l r g : Tr} (hl : CmE l) (hn : IsNd l) : CmE (nd 6 a n nm op l r g) := by
 intro S w P v hx
 obtain ⟨q, vl, vr, vg, ys, rfl, hq, hxl, -, -, -⟩ := qH hx
 obtain ⟨ql, rfl⟩ := q_ hn hxl
 have hmf := mkf
 have c0 := z_ (i := 0) hq rfl
 have c5 := z_ (i := 5) hq rfl
 have HQ : Hid (w.heap[q]? = some (.cells #[.int .i64 6, .int .i64 a, .int .i64 n, str nm, str op, ptr ql, vr, vg] 252)) := hq
 have hlt : q < w.heap.size := (Array.getElem?_eq_some_iff.1 hq).1
 have HC : Hid (∀ W, Below w.heap.size w W → Calls Tryz.prog 138 #[ptr P, ptr ql] W (CmP P l W)) := fun W hb => hl S W P _ (zD hb hxl)
 clear hx hq hxl
 go_enter Tryz.func138, Tryz.ntmps138
 go_wp2_with fail
 obtain ⟨W0, hW0⟩ : ∃ W0, W0 = (w.alloc (.cells #[ptr P] 57)).alloc (.cells #[ptr q] 145) := ⟨_, rfl⟩
 have HB0 : Hid (Below w.heap.size w W0) := by rw [hW0]; exact jo _ _ _
 have HS0 : Hid (W0.heap.size = w.heap.size + 2) := by rw [hW0]; simp [Hid]
 have p1 : W0.cell? ⟨w.heap.size, 0, none⟩ = some (ptr P) := by rw [hW0]; exact z_ (i := 0) (al1 _ _ _) rfl
 have p2 : W0.cell? ⟨w.heap.size + 1, 0, none⟩ = some (ptr q) := by rw [hW0]; exact z_ (i := 0) (al2 _ _ _) rfl
 have p3 : W0.cell? ⟨q, 5, none⟩ = some (ptr ql) := by rw [hW0]; exact z_ (i := 5) (zc (zc HQ.out _) _) rfl
 have hz : w.heap.size + 1 < W0.heap.size := by have := HS0.out; omega
 have hz0 : w.heap.size < W0.heap.size := by omega
 have hq0 : q < W0.heap.size := by omega
 have m1 : w.heap.size ≠ W0.heap.size := by omega
 have m2 : w.heap.size + 1 ≠ W0.heap.size := by omega
 have m3 : q ≠ W0.heap.size := by omega
 rw [← hW0]
 clear hW0 c0 c5
 go_region_held3 (fun w' => w'.cell? ⟨w.heap.size, 0, none⟩ = some (ptr P) ∧ w'.cell? ⟨w.heap.size + 1, 0, none⟩ = some (ptr q) ∧ w'.cell? ⟨q, 5, none⟩ = some (ptr ql))
  (first | go_keep | (refine ⟨?_, ?_, ?_⟩ <;> first | (go_simp; done) | (simp [*]; done) | (rw [World.cell?_setCell_other (by intro e; injection e; omega)]; assumption)))
  (first | (go_at_call 138; refine (HC.out _ (by first | exact HB0.out.drew | exact (HB0.out.alloc (by have := HS0.out; omega) _).drew | exact (HB0.out.drew.alloc (by have := HS0.out; simp; omega) _))).mono ?_; rintro e w1 ⟨k1, cp1, rfl, hcl, hb1⟩; have hcc := fun b o h => hb1.cell (p := ⟨b, o, none⟩) h; have hff := fun b o h => hb1.frozen (p := ⟨b, o, none⟩) h; have t1 : w1.cell? ⟨w.heap.size, 0, none⟩ = some (ptr P) := (hcc _ _ (by first | (simp; done) | (simp; omega))).trans (by go_simp); have t2 : w1.cell? ⟨w.heap.size + 1, 0, none⟩ = some (ptr q) := (hcc _ _ (by first | (simp; done) | (simp; omega))).trans (by go_simp); have t3 : w1.cell? ⟨q, 5, none⟩ = some (ptr ql) := (hcc _ _ (by first | (simp; done) | (simp; omega))).trans (by go_simp); have t4 := hb1.size; simp at t4; have u1 : w.heap.size < w1.heap.size := (by omega); have u2 : w.heap.size + 1 < w1.heap.size := (by omega); have u3 : q < w1.heap.size := (by omega)))
 all_goals first
  |(obtain ⟨g1, g2, g3⟩ := late (HB0.out.trans ((zu hb1).mono HB0.out.size)) hcl; clear hcc hff; have G1 : Hid (_ ∧ _ ∧ _) := ⟨g1, g2, g3⟩; clear g1 g2 g3; go_wp2; go_ret; obtain ⟨g1, g2, g3⟩ := G1.out; exact ⟨_, _, rfl, by rw [ClE]; exact .inr (.inr (.inr (.inr (.inr (.inl ⟨rfl, _, _, rfl, g1, g2⟩))))), g3⟩)
  |(obtain ⟨g1, g2, g3⟩ := early HB0.out (zu hb1) hcl; clear hcc hff; have G1 : Hid (_ ∧ _ ∧ _) := ⟨g1, g2, g3⟩; clear g1 g2 g3; go_wp2; go_ret; obtain ⟨g1, g2, g3⟩ := G1.out; exact ⟨_, _, rfl, by rw [ClE]; exact .inr (.inr (.inr (.inr (.inr (.inl ⟨rfl, _, _, rfl, g1, g2⟩))))), g3⟩)
def StmtC (w : World) (bs : Nat) (nm : By) : Prop := ∃ (b o : Nat), w.heap[bs]? = some (.cells #[.pointer (some ⟨b, o, none⟩)] 186) ∧ ∃ cs, w.heap[b]? = some (.cells cs 147) ∧ cs[o + 2]? = some (str nm)
def ClB (w : World) (P : Nat) : Tr → List Value → Prop
 | .slice [.agg [.lit (.int _ c), .lit (.int _ a), .lit (.string nm), ix, v, th, el]] [g], us =>
  ∃ (u : Value) (rest : List Value), us = u :: rest ∧ ClB w P g rest ∧
  ((c = 3 ∧ ∃ bi bv bs vi vv, u = .func (.func 185) #[] #[ptr bi, ptr bv, ptr bs] ∧ w.heap[bi]? = some (.cells #[vi] 245) ∧ w.heap[bv]? = some (.cells #[vv] 245) ∧ StmtC w bs nm ∧ ClE w P ix vi ∧ ClE w P v vv) ∨
   (c = 4 ∧ ∃ (bv bt be vt ve : _) (vv : Value) (at' ae pt pe gt' ge : Nat) (ts es : List Value), u = .func (.func 187) #[] #[ptr bv, ptr bt, ptr be] ∧ w.heap[bv]? = some (.cells #[vv] 245) ∧ w.heap[bt]? = some (.cells #[vt] 67) ∧ w.heap[be]? = some (.cells #[ve] 67) ∧ ClE w P v vv ∧
    vt = .func (.func 87) #[] #[ptr at', ptr pt] ∧ w.heap[at']? = some (.cells #[.slice (some ⟨gt', 0, none⟩) ts.length ts.length] 184) ∧ w.heap[gt']? = some (.cells ts.toArray 67) ∧ w.heap[pt]? = some (.cells #[ptr P] 57) ∧ ClB w P th ts ∧
    ve = .func (.func 87) #[] #[ptr ae, ptr pe] ∧ w.heap[ae]? = some (.cells #[.slice (some ⟨ge, 0, none⟩) es.length es.length] 184) ∧ w.heap[ge]? = some (.cells es.toArray 67) ∧ w.heap[pe]? = some (.cells #[ptr P] 57) ∧ ClB w P el es) ∨
   (c = 5 ∧ ∃ (bv bt bp : Nat) (vv vt : Value) (at' pt gt' : Nat) (ts : List Value), u = .func (.func 188) #[] #[ptr bv, ptr bt, ptr bp] ∧ w.heap[bv]? = some (.cells #[vv] 245) ∧ w.heap[bt]? = some (.cells #[vt] 67) ∧ w.heap[bp]? = some (.cells #[ptr P] 57) ∧ ClE w P v vv ∧
    vt = .func (.func 87) #[] #[ptr at', ptr pt] ∧ w.heap[at']? = some (.cells #[.slice (some ⟨gt', 0, none⟩) ts.length ts.length] 184) ∧ w.heap[gt']? = some (.cells ts.toArray 67) ∧ w.heap[pt]? = some (.cells #[ptr P] 57) ∧ ClB w P th ts) ∨
   (c = 6 ∧ ∃ bv vv, u = .func (.func 139) #[] #[ptr bv] ∧ w.heap[bv]? = some (.cells #[vv] 245) ∧ ClE w P v vv) ∨
   (c = 7 ∧ ∃ bp bv vv, u = .func (.func 140) #[] #[ptr bp, ptr bv] ∧ w.heap[bp]? = some (.cells #[ptr P] 57) ∧ w.heap[bv]? = some (.cells #[vv] 245) ∧ ClE w P v vv) ∨
   (c = 8 ∧ ∃ bv vv, u = .func (.func 142) #[] #[ptr bv] ∧ w.heap[bv]? = some (.cells #[vv] 245) ∧ ClE w P v vv) ∨
   ((c = 1 ∨ c = 2) ∧ ∃ bv bs vv, u = .func (.func 143) #[] #[ptr bv, ptr bs] ∧ w.heap[bv]? = some (.cells #[vv] 245) ∧ StmtC w bs nm ∧ ClE w P v vv))
 | .slice [] [], us => us = []
 | _, _ => False
def BlV (w : World) (P : Nat) (t : Tr) (v : Value) : Prop := ∃ (a p g : Nat) (ts : List Value), v = .func (.func 87) #[] #[ptr a, ptr p] ∧ w.heap[a]? = some (.cells #[.slice (some ⟨g, 0, none⟩) ts.length ts.length] 184) ∧ w.heap[g]? = some (.cells ts.toArray 67) ∧ w.heap[p]? = some (.cells #[ptr P] 57) ∧ ClB w P t ts
def Ent (k : Nat) : Prop := ∀ (args : Array Value) (w : World), (callFunc k args).run Tryz.prog w = .ok (.enter k args) w
theorem ent87 : Ent 87 := fun args w => by kernel_rfl
theorem ent139 : Ent 139 := fun args w => by kernel_rfl
theorem ent140 : Ent 140 := fun args w => by kernel_rfl
theorem ent142 : Ent 142 := fun args w => by kernel_rfl
theorem ent143 : Ent 143 := fun args w => by kernel_rfl
theorem ent185 : Ent 185 := fun args w => by kernel_rfl
theorem ent187 : Ent 187 := fun args w => by kernel_rfl
theorem ent188 : Ent 188 := fun args w => by kernel_rfl
theorem ent189 : Ent 189 := fun args w => by kernel_rfl
theorem ent193 : Ent 193 := fun args w => by kernel_rfl
theorem ent195 : Ent 195 := fun args w => by kernel_rfl
theorem ent197 : Ent 197 := fun args w => by kernel_rfl
theorem ent198 : Ent 198 := fun args w => by kernel_rfl
theorem ent200 : Ent 200 := fun args w => by kernel_rfl
theorem ent222 : Ent 222 := fun args w => by kernel_rfl
theorem ent224 : Ent 224 := fun args w => by kernel_rfl
theorem ent225 : Ent 225 := fun args w => by kernel_rfl
theorem ent227 : Ent 227 := fun args w => by kernel_rfl
theorem ent228 : Ent 228 := fun args w => by kernel_rfl
theorem ent229 : Ent 229 := fun args w => by kernel_rfl
structure Cx where
 w0 : World
 P : Nat
 fv : Value
 fs : By → Option Fun
def cokE (fs : By → Option Fun) : Tr → Prop
 | .agg [.lit (.int _ c), .lit (.int _ _), .lit (.int _ _), .lit (.string nm), .lit (.string _), l, r, xs] => nm.length ≤ 1000000 ∧ cokE fs l ∧ cokE fs r ∧ cokE fs xs ∧ (c = 5 → ∃ F, fs nm = some F ∧ F.ps.length = chl xs)
 | .slice [x] [g] => cokE fs x ∧ cokE fs g
 | _ => True
def cokB (fs : By → Option Fun) : Tr → Prop
 | .slice [.agg [.lit (.int _ _), .lit (.int _ _), .lit (.string nm), ix, v, th, el]] [g] => nm.length ≤ 1000000 ∧ cokE fs ix ∧ cokE fs v ∧ cokB fs th ∧ cokB fs el ∧ cokB fs g
 | _ => True
def Ends9 (r : Rs) (out : List Int) (k : Int) (e : Ending) : Prop := r.s.out = out ∧ ∃ older : List PanicEntry, e = .panicked ({ v := .iface 61 (.int .i64 k), recovered := false } :: older) ∧ ∀ z ∈ older, z.goexit = false
def EP (X : Cx) (w : World) (r : Rs) (d : Nat) (x : Except (Int × List Int) (Vl × Sg)) (e : Ending) (w' : World) : Prop :=
 ∃ r', St X.w0 X.P X.fv w' r' d ∧ Fz X.P NoE w r w' r' ∧
  ((∃ y p l c, x = .ok (y, r'.s) ∧ e = .returned (vlA y.1 (.slice p l c)) ∧ QvS r'.ab y.2 (.slice p l c)) ∨ (∃ k out, x = .error (k, out) ∧ Ends9 r' out k e))
def SP (X : Cx) (w : World) (r : Rs) (d M K : Nat) (x : Except (Int × List Int) ((Option Int × Own) × Sg)) (e : Ending) (w' : World) : Prop :=
 ∃ r', St X.w0 X.P X.fv w' r' d ∧ Fz X.P (fun b => b = M) w r w' r' ∧
  ((∃ o' n', x = .ok ((none, o'), r'.s) ∧ e = .returned (.tuple #[]) ∧ OwS w' M n' r'.ab o' ∧ n' + r'.s.fuel ≤ K) ∨ (∃ z o', x = .ok ((some z, o'), r'.s) ∧ e = toldE z) ∨ (∃ k out, x = .error (k, out) ∧ Ends9 r' out k e))
def Cal (v : Value) (M : Nat) (w : World) (Q : Ending → World → Prop) : Prop := ∃ k cap, v = .func (.func k) #[] cap ∧ Ent k ∧ Calls Tryz.prog k (#[.map (some M)] ++ cap) w Q
def GoE (X : Cx) (g : Nat) (t : Tr) (v : Value) : Prop := ∀ (w : World) (r : Rs) (d M n : Nat) (o : Own), St X.w0 X.P X.fv w r d → OwS w M n r.ab o → (∀ out, evE X.fs g d o t r.s ≠ .error (99, out)) → Cal v M w (EP X w r d (evE X.fs g d o t r.s))
theorem cnt_list : ∀ (l : List Bool) (i : Nat), l[i]? = some false → (l.set i true).count false + 1 = l.count false
 | [], i, h => by simp at h
 | b :: l, 0, h => by
  simp only [List.getElem?_cons_zero, Option.some.injEq] at h
  subst h
  simp
 | b :: l, i + 1, h => by
  simp only [List.getElem?_cons_succ] at h
  have := cnt_list l i h
  simp only [List.set_cons_succ, List.count_cons]
  omega
theorem cnt_set {l : Array Bool} {i : Nat} (h : l.getD i true = false) : (l.setIfInBounds i true).toList.count false + 1 = l.toList.count false := by
 have h' : l.toList[i]? = some false := by
  rw [Array.getElem?_toList]
  rcases Nat.lt_or_ge i l.size with hi | hi
  ·rw [Array.getElem?_eq_getElem hi]
   simp [Array.getD, hi] at h
   rw [h]
  ·simp [Array.getD, Nat.not_lt.2 hi] at h
 rw [Array.toList_setIfInBounds]
 exact cnt_list _ _ h'
theorem wpAnyH_meet {P : Program} {md : Region.Mode} {ops : Array Oper} {Q : Exit → Act → World → Prop} {S : World → Prop} {I : Array Bool → Act → World → Prop} {stop : Array Bool} {n : Nat}
  (hn : stop.toList.count false = n)
  (hstep : ∀ listed a w, I listed a w → listed ≠ stop → Region.ready md ops listed ≠ [] ∧ ∀ i ∈ Region.ready md ops listed, wpOp P ops Q i (fun a' w' => S w' ∧ I (listed.setIfInBounds i true) a' w') a w)
  (hstop : ∀ a w, I stop a w → wpAnyH P md ops Q S n stop a w)
  (hcnt : ∀ listed a w, I listed a w → listed.toList.count false ≤ n → listed = stop) :
  ∀ (fuel : Nat) (listed : Array Bool) (a : Act) (w : World), I listed a w → listed.toList.count false = fuel → n ≤ fuel → wpAnyH P md ops Q S fuel listed a w
 | 0, listed, a, w, hI, hc, hle => by
  obtain rfl : n = 0 := by omega
  obtain rfl := hcnt listed a w hI (by omega)
  exact hstop a w hI
 | fuel + 1, listed, a, w, hI, hc, hle => by
  by_cases hs : listed = stop
  ·subst hs
   have e : n = fuel + 1 := by omega
   rw [← e]
   exact hstop a w hI
  ·obtain ⟨h1, h2⟩ := hstep listed a w hI hs
   refine wpAnyH_all rfl h1 fun i hi => wpOp_mono (fun a' w' h => ⟨h.1, ?_⟩) (h2 i hi)
   have h0 := (mem_ready.1 hi).1
   have h3 := cnt_set h0
   refine wpAnyH_meet hn hstep hstop hcnt fuel _ a' w' h.2 (by omega) ?_
   rcases Nat.lt_or_ge fuel n with hlt | hge
   ·exact absurd (hcnt listed a w hI (by omega)) hs
   ·exact hge
theorem StmtC.kept {w w' : World} (h : Ks w w') {bs : Nat} {nm : By} (hs : StmtC w bs nm) : StmtC w' bs nm := by
 obtain ⟨b, o, h1, cs, h2, h3⟩ := hs
 exact ⟨b, o, h _ _ _ (by decide) (fun e => absurd e (by decide)) h1, cs, h _ _ _ (by decide) (fun e => absurd e (by decide)) h2, h3⟩
theorem ClB.row {w : World} {P : Nat} : ∀ (t : Tr) (us : List Value), ClB w P t us → Value.nilFunc ∉ us.toArray := fun t us h => by
 unfold ClB at h
 split at h
 ·rename_i c _ a _ nm ix v th el g
  obtain ⟨u, rest, rfl, hr, h⟩ := h
  have := ClB.row g rest hr
  simp only [List.mem_toArray, List.mem_cons, not_or] at this ⊢
  refine ⟨fun e => ?_, this⟩
  rcases h with ⟨_, bi, bv, bs, vi, vv, rfl, _⟩ | ⟨_, bv, bt, be, vt, ve, vv, at', ae, pt, pe, gt', ge, ts, es, rfl, _⟩ | ⟨_, bv, bt, bp, vv, vt, at', pt, gt', ts, rfl, _⟩ | ⟨_, bv, vv, rfl, _⟩ | ⟨_, bp, bv, vv, rfl, _⟩ | ⟨_, bv, vv, rfl, _⟩ | ⟨_, bv, bs, vv, rfl, _⟩
  all_goals cases e
 ·subst h
  simp
 ·exact h.elim
theorem ClB.kept {w w' : World} {P : Nat} (h1 : Ks w w') (t : Tr) (us : List Value) (h : ClB w P t us) : ClB w' P t us := by
 unfold ClB at h
 split at h
 ·rename_i c _ a _ nm ix v th el g
  have it := ClB.kept h1 (P := P) th
  have ie := ClB.kept h1 (P := P) el
  have ig := ClB.kept h1 (P := P) g
  have k : ∀ (b : Nat) (v : Value) (t : TypeId), t ≠ 60 → v ≠ .nilFunc → w.heap[b]? = some (.cells #[v] t) → w'.heap[b]? = some (.cells #[v] t) := fun b v t ht hv hb => h1 _ _ _ ht (fun _ => by simpa using fun e => hv e.symm) hb
  have kr : ∀ (b : Nat) (t : Tr) (ts : List Value), ClB w P t ts → w.heap[b]? = some (.cells ts.toArray 67) → w'.heap[b]? = some (.cells ts.toArray 67) := fun b t ts hc hb => h1 _ _ _ (by decide) (fun _ => ClB.row t ts hc) hb
  have ke := fun (t : Tr) (v : Value) (h : ClE w P t v) => ClE.kept h1 t v h
  rw [ClB]
  obtain ⟨u, rest, rfl, hr, h⟩ := h
  refine ⟨u, rest, rfl, ig _ hr, ?_⟩
  rcases h with ⟨e, bi, bv, bs, vi, vv, e1, e2, e3, e4, e5, e6⟩ | ⟨e, bv, bt, be, vt, ve, vv, at', ae, pt, pe, gt', ge, ts, es, e1, e2, e3, e4, e5, t1, t2, t3, t4, t5, s1, s2, s3, s4, s5⟩ | ⟨e, bv, bt, bp, vv, vt, at', pt, gt', ts, e1, e2, e3, e4, e5, t1, t2, t3, t4, t5⟩ | ⟨e, bv, vv, e1, e2, e3⟩ | ⟨e, bp, bv, vv, e1, e2, e3, e4⟩ | ⟨e, bv, vv, e1, e2, e3⟩ | ⟨e, bv, bs, vv, e1, e2, e3, e4⟩
  ·exact .inl ⟨e, bi, bv, bs, vi, vv, e1, k _ _ _ (by decide) e5.isf e2, k _ _ _ (by decide) e6.isf e3, e4.kept h1, ke _ _ e5, ke _ _ e6⟩
  ·exact .inr (.inl ⟨e, bv, bt, be, vt, ve, vv, at', ae, pt, pe, gt', ge, ts, es, e1, k _ _ _ (by decide) e5.isf e2, k _ _ _ (by decide) (by rw [t1]; simp) e3, k _ _ _ (by decide) (by rw [s1]; simp) e4, ke _ _ e5, t1, k _ _ _ (by decide) (by simp) t2, kr _ _ _ t5 t3, k _ _ _ (by decide) (by simp) t4, it _ t5, s1, k _ _ _ (by decide) (by simp) s2, kr _ _ _ s5 s3, k _ _ _ (by decide) (by simp) s4, ie _ s5⟩)
  ·exact .inr (.inr (.inl ⟨e, bv, bt, bp, vv, vt, at', pt, gt', ts, e1, k _ _ _ (by decide) e5.isf e2, k _ _ _ (by decide) (by rw [t1]; simp) e3, k _ _ _ (by decide) (by simp) e4, ke _ _ e5, t1, k _ _ _ (by decide) (by simp) t2, kr _ _ _ t5 t3, k _ _ _ (by decide) (by simp) t4, it _ t5⟩))
  ·exact .inr (.inr (.inr (.inl ⟨e, bv, vv, e1, k _ _ _ (by decide) e3.isf e2, ke _ _ e3⟩)))
  ·exact .inr (.inr (.inr (.inr (.inl ⟨e, bp, bv, vv, e1, k _ _ _ (by decide) (by simp) e2, k _ _ _ (by decide) e4.isf e3, ke _ _ e4⟩))))
  ·exact .inr (.inr (.inr (.inr (.inr (.inl ⟨e, bv, vv, e1, k _ _ _ (by decide) e3.isf e2, ke _ _ e3⟩)))))
  ·exact .inr (.inr (.inr (.inr (.inr (.inr ⟨e, bv, bs, vv, e1, k _ _ _ (by decide) e4.isf e2, e3.kept h1, ke _ _ e4⟩)))))
 ·rw [ClB]; exact h
 ·exact h.elim
theorem BlV.kept {w w' : World} {P : Nat} (h1 : Ks w w') {t : Tr} {v : Value} (h : BlV w P t v) : BlV w' P t v := by
 obtain ⟨a, p, g, ts, e, h2, h3, h4, h5⟩ := h
 exact ⟨a, p, g, ts, e, h1 _ _ _ (by decide) (fun e => absurd e (by decide)) h2, h1 _ _ _ (by decide) (fun _ => ClB.row t ts h5) h3, h1 _ _ _ (by decide) (fun e => absurd e (by decide)) h4, ClB.kept h1 t ts h5⟩
theorem ClB.below {w w' : World} {P : Nat} {t : Tr} {us : List Value} (h : ClB w P t us) (hb : Below w.heap.size w w') : ClB w' P t us := ClB.kept (Ks.below hb) t us h
theorem BlV.below {w w' : World} {P : Nat} {t : Tr} {v : Value} (h : BlV w P t v) (hb : Below w.heap.size w w') : BlV w' P t v := h.kept (Ks.below hb)
theorem cm_len {a n : Int} {nm op : By} {l r g : Tr} (hl : CmE l) (hn : IsNd l) : CmE (nd 7 a n nm op l r g) := by
 intro S w P v hx
 obtain ⟨q, vl, vr, vg, ys, rfl, hq, hxl, -, -, -⟩ := qH hx
 obtain ⟨ql, rfl⟩ := q_ hn hxl
 have hmf := mkf
 have c0 := z_ (i := 0) hq rfl
 have c5 := z_ (i := 5) hq rfl
 have HQ : Hid (w.heap[q]? = some (.cells #[.int .i64 7, .int .i64 a, .int .i64 n, str nm, str op, ptr ql, vr, vg] 252)) := hq
 have hlt : q < w.heap.size := (Array.getElem?_eq_some_iff.1 hq).1
 have HC : Hid (∀ W, Below w.heap.size w W → Calls Tryz.prog 138 #[ptr P, ptr ql] W (CmP P l W)) := fun W hb => hl S W P _ (zD hb hxl)
 clear hx hq hxl
 go_enter Tryz.func138, Tryz.ntmps138
 go_wp2_with fail
 obtain ⟨W0, hW0⟩ : ∃ W0, W0 = (w.alloc (.cells #[ptr P] 57)).alloc (.cells #[ptr q] 145) := ⟨_, rfl⟩
 have HB0 : Hid (Below w.heap.size w W0) := by rw [hW0]; exact jo _ _ _
 have HS0 : Hid (W0.heap.size = w.heap.size + 2) := by rw [hW0]; simp [Hid]
 have p1 : W0.cell? ⟨w.heap.size, 0, none⟩ = some (ptr P) := by rw [hW0]; exact z_ (i := 0) (al1 _ _ _) rfl
 have p2 : W0.cell? ⟨w.heap.size + 1, 0, none⟩ = some (ptr q) := by rw [hW0]; exact z_ (i := 0) (al2 _ _ _) rfl
 have p3 : W0.cell? ⟨q, 5, none⟩ = some (ptr ql) := by rw [hW0]; exact z_ (i := 5) (zc (zc HQ.out _) _) rfl
 have hz : w.heap.size + 1 < W0.heap.size := by have := HS0.out; omega
 have hz0 : w.heap.size < W0.heap.size := by omega
 have hq0 : q < W0.heap.size := by omega
 have m1 : w.heap.size ≠ W0.heap.size := by omega
 have m2 : w.heap.size + 1 ≠ W0.heap.size := by omega
 have m3 : q ≠ W0.heap.size := by omega
 rw [← hW0]
 clear hW0 c0 c5
 go_region_held3 (fun w' => w'.cell? ⟨w.heap.size, 0, none⟩ = some (ptr P) ∧ w'.cell? ⟨w.heap.size + 1, 0, none⟩ = some (ptr q) ∧ w'.cell? ⟨q, 5, none⟩ = some (ptr ql))
  (first | go_keep | (refine ⟨?_, ?_, ?_⟩ <;> first | (go_simp; done) | (simp [*]; done) | (rw [World.cell?_setCell_other (by intro e; injection e; omega)]; assumption)))
  (first | (go_at_call 138; refine (HC.out _ (by first | exact HB0.out.drew | exact (HB0.out.alloc (by have := HS0.out; omega) _).drew | exact (HB0.out.drew.alloc (by have := HS0.out; simp; omega) _))).mono ?_; rintro e w1 ⟨k1, cp1, rfl, hcl, hb1⟩; have hcc := fun b o h => hb1.cell (p := ⟨b, o, none⟩) h; have hff := fun b o h => hb1.frozen (p := ⟨b, o, none⟩) h; have t1 : w1.cell? ⟨w.heap.size, 0, none⟩ = some (ptr P) := (hcc _ _ (by first | (simp; done) | (simp; omega))).trans (by go_simp); have t2 : w1.cell? ⟨w.heap.size + 1, 0, none⟩ = some (ptr q) := (hcc _ _ (by first | (simp; done) | (simp; omega))).trans (by go_simp); have t3 : w1.cell? ⟨q, 5, none⟩ = some (ptr ql) := (hcc _ _ (by first | (simp; done) | (simp; omega))).trans (by go_simp); have t4 := hb1.size; simp at t4; have u1 : w.heap.size < w1.heap.size := (by omega); have u2 : w.heap.size + 1 < w1.heap.size := (by omega); have u3 : q < w1.heap.size := (by omega)))
 all_goals first
  |(obtain ⟨g1, g2, g3⟩ := late (HB0.out.trans ((zu hb1).mono HB0.out.size)) hcl; clear hcc hff; have G1 : Hid (_ ∧ _ ∧ _) := ⟨g1, g2, g3⟩; clear g1 g2 g3; go_wp2; go_ret; obtain ⟨g1, g2, g3⟩ := G1.out; exact ⟨_, _, rfl, by rw [ClE]; exact .inr (.inr (.inr (.inr (.inr (.inr (.inl ⟨rfl, _, _, rfl, g1, g2⟩)))))), g3⟩)
  |(obtain ⟨g1, g2, g3⟩ := early HB0.out (zu hb1) hcl; clear hcc hff; have G1 : Hid (_ ∧ _ ∧ _) := ⟨g1, g2, g3⟩; clear g1 g2 g3; go_wp2; go_ret; obtain ⟨g1, g2, g3⟩ := G1.out; exact ⟨_, _, rfl, by rw [ClE]; exact .inr (.inr (.inr (.inr (.inr (.inr (.inl ⟨rfl, _, _, rfl, g1, g2⟩)))))), g3⟩)
theorem tl_yes {y : ByteArray} {op l : By} (h : y.data.toList = op) (e : op = l) : (y.toList == l) = true := by rw [← tl_eq, h, e]; simp
theorem tl_no {y : ByteArray} {op l : By} (h : y.data.toList = op) (e : op ≠ l) : (y.toList == l) = false := by rw [← tl_eq, h]; simpa using e
theorem one_walk {a n : Int} {nm op : By} {l r g : Tr} (hl : CmE l) (hn : IsNd l) (S : Nat → Prop) (w : World) (P : Nat) (v : Value) (hx : ExAt S w (nd 4 a n nm op l r g) v) : Calls Tryz.prog 191 #[ptr P, v] w (CmP P (nd 4 a n nm op l r g) w) := by
 obtain ⟨q, vl, vr, vg, ys, rfl, hq, hxl, -, -, -⟩ := qH hx
 obtain ⟨ql, rfl⟩ := q_ hn hxl
 have hmf := mkf
 have c5 := z_ (i := 5) hq rfl
 obtain ⟨y, hy, hyt⟩ := zt op
 have HQ : Hid (w.heap[q]? = some (.cells #[.int .i64 4, .int .i64 a, .int .i64 n, str nm, str op, ptr ql, vr, vg] 252)) := hq
 have hlt : q < w.heap.size := (Array.getElem?_eq_some_iff.1 hq).1
 have HC : Hid (∀ W, Below w.heap.size w W → Calls Tryz.prog 138 #[ptr P, ptr ql] W (CmP P l W)) := fun W hb => hl S W P _ (zD hb hxl)
 have HY : Hid (str op = .string y ∧ y.data.toList = op) := ⟨hy, hyt⟩
 clear hx hq hxl hy hyt
 go_enter Tryz.func191, Tryz.ntmps191
 go_wp2_with (go_at_call 138; fail)
 refine (HC.out _ (Below.refl _ _)).mono ?_
 rintro e w1 ⟨k1, cp1, rfl, hcl, hb1⟩
 have HL : Hid (_ ∧ _ ∧ _) := late hb1 hcl
 have hq1 : w1.heap[q]? = some (.cells #[.int .i64 4, .int .i64 a, .int .i64 n, str nm, .string y, ptr ql, vr, vg] 252) := by rw [hb1.block q hlt, HQ.out, HY.out.1]
 have c4 : (w1.alloc (.cells #[.func (.func k1) #[] cp1] 245)).cell? ⟨q, 4, none⟩ = some (.string y) := z_ (i := 4) (zc hq1 _) rfl
 have c4' : w1.cell? ⟨q, 4, none⟩ = some (.string y) := z_ (i := 4) hq1 rfl
 have hq2 : q < w1.heap.size := Nat.lt_of_lt_of_le hlt hb1.size
 clear hcl hb1 hq1 c5
 by_cases ho : op = [45]
 ·have hyb : (y.toList == [45]) = true := tl_yes HY.out.2 ho
  go_wp2
  go_ret
  obtain ⟨g1, g2, g3⟩ := HL.out
  exact ⟨_, _, rfl, by rw [ClE]; exact .inr (.inr (.inr (.inl ⟨rfl, _, _, by rw [if_pos ho], g1, g2⟩))), g3⟩
 ·have hyb : (y.toList == [45]) = false := tl_no HY.out.2 ho
  go_wp2
  go_ret
  obtain ⟨g1, g2, g3⟩ := HL.out
  exact ⟨_, _, rfl, by rw [ClE]; exact .inr (.inr (.inr (.inl ⟨rfl, _, _, by rw [if_neg ho], g1, g2⟩))), g3⟩
theorem cm_un {a n : Int} {nm op : By} {l r g : Tr} (hl : CmE l) (hn : IsNd l) : CmE (nd 4 a n nm op l r g) := by
 intro S w P v hx
 have HX : Hid (ExAt S w (nd 4 a n nm op l r g) v) := hx
 obtain ⟨q, vl, vr, vg, ys, rfl, hq, -, -, -, -⟩ := qH hx
 have c0 := z_ (i := 0) hq rfl
 have hlt : q < w.heap.size := (Array.getElem?_eq_some_iff.1 hq).1
 have HC : Hid (∀ W, Below w.heap.size w W → Calls Tryz.prog 191 #[ptr P, ptr q] W (CmP P (nd 4 a n nm op l r g) W)) := fun W hb => one_walk hl hn S W P _ (zD hb HX.out)
 clear hx hq
 go_enter Tryz.func138, Tryz.ntmps138
 go_wp2_with (go_at_call 191; fail)
 refine (HC.out _ (jo _ _ _)).mono ?_
 rintro e w1 ⟨k1, cp1, rfl, hcl, hb1⟩
 have HH : Hid (_ ∧ _) := ⟨hcl, hb1⟩
 clear hcl hb1
 go_wp2
 go_ret
 exact ⟨_, _, rfl, HH.out.1, (jo _ _ _).trans (HH.out.2.mono (by simp; omega))⟩
end Go.Proofs.YtnfhpdbbfejioaaGreatDoor
