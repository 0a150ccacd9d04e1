/- UH UI UJ -/
import Derived.Test.YtnfhpdbbfejioaaGreatDoorE12
namespace Go.Proofs.YtnfhpdbbfejioaaGreatDoor
set_option linter.unusedVariables false
set_option linter.unusedSimpArgs false
set_option maxRecDepth 100000
set_option maxHeartbeats 16000000
open Go Go.RowKit
theorem info83 : (Tryz.prog.info? 144).map (fun i => (i.zero, i.size, i.bytes)) = some (some (.agg #[.string ⟨#[]⟩, .int .i64 0]), 2, 24) := by kernel_rfl
def psT (xs : List (By × Int)) : Tr := chain (xs.map fun x => pr x.1 x.2)
def psC (xs : List (By × Int)) : List Value := xs.flatMap fun x => [str x.1, .int .i64 x.2]
def FnAt (S : Nat → Prop) (w : World) : Tr → List Value → Prop
 | .slice [.agg [.lit (.string nm), .lit (.int _ a), ps, b]] [g], cs =>
  ∃ (vp vb : Value) (nb : Nat) (xs : List (By × Int)) (bcs rest : List Value), cs = [str nm, .int .i64 a, vp, vb] ++ rest ∧ ps = psT xs ∧ RowS S w 144 2 vp xs.length (psC xs) ∧ RowS S w 147 7 vb nb bcs ∧ StAt S w b bcs ∧ FnAt S w g rest
 | .slice [] [], cs => cs = []
 | _, _ => False
theorem FnAt.kept {S : Nat → Prop} {w w' : World} (h1 : Keeps S w w') (t : Tr) (cs : List Value) (h : FnAt S w t cs) : FnAt S w' t cs := by
 unfold FnAt at h
 split at h
 ·obtain ⟨vp, vb, nb, xs, bcs, rest, e, a1, a2, a3, a4, a5⟩ := h
  rw [FnAt]
  exact ⟨vp, vb, nb, xs, bcs, rest, e, a1, a2.kept h1 (by decide), a3.kept h1 (by decide), StAt.kept h1 _ _ a4, FnAt.kept h1 _ _ a5⟩
 ·rw [FnAt]; exact h
 ·exact h.elim
theorem FnAt.mono {S S' : Nat → Prop} {w : World} (h1 : ∀ b, S b → b < w.heap.size → S' b) (t : Tr) (cs : List Value) (h : FnAt S w t cs) : FnAt S' w t cs := by
 unfold FnAt at h
 split at h
 ·obtain ⟨vp, vb, nb, xs, bcs, rest, e, a1, a2, a3, a4, a5⟩ := h
  rw [FnAt]
  exact ⟨vp, vb, nb, xs, bcs, rest, e, a1, a2.mono h1, a3.mono h1, StAt.mono h1 _ _ a4, FnAt.mono h1 _ _ a5⟩
 ·rw [FnAt]; exact h
 ·exact h.elim
theorem FnAt.old {m n : Nat} {w : World} {t : Tr} {cs : List Value} (h : FnAt (Fr m) w t cs) (hm : n ≤ m) : FnAt (Fr n) w t cs := FnAt.mono (fun b hb _ => Nat.le_trans hm hb) t cs h
theorem fn_cells {S : Nat → Prop} {w : World} {t : Tr} {cs : Array Value} (h : FnAt S w (cc t ce) cs.toList) : ∃ (y0 : ByteArray) (n1 : Int) (s2 : Option Addr) (m2 c2 : Nat) (s3 : Option Addr) (m3 c3 : Nat), cs = #[.string y0, .int .i64 n1, .slice s2 m2 c2, .slice s3 m3 c3] := by
 unfold FnAt at h
 split at h
 ·rename_i heq
  obtain ⟨vp, vb, nb, xs, bcs, rest, e, a1, a2, a3, a4, a5⟩ := h
  injection heq with h1 h2
  injection h2 with h2 _
  subst h2
  have : rest = [] := by rw [FnAt] at a5; exact a5
  subst this
  obtain ⟨q5, c5, rfl⟩ := zd a2.1
  obtain ⟨q6, c6, rfl⟩ := zd a3.1
  have h := congrArg List.toArray e
  rw [Array.toArray_toList] at h
  exact ⟨_, _, _, _, _, _, _, _, h⟩
 ·rename_i heq
  injection heq with h1 h2
  cases h1
 ·exact h.elim
theorem fns_snoc {S : Nat → Prop} {w : World} {t : Tr} {ds : List Value} (ht : FnAt S w (cc t ce) ds) : ∀ (xs : List Tr) (cs : List Value), FnAt S w (chain xs) cs → FnAt S w (chain (xs ++ [t])) (cs ++ ds)
 | [], cs, h => by
  have h' : FnAt S w (.slice [] []) cs := h
  rw [FnAt] at h'
  subst h'
  exact ht
 | x :: xs, cs, h => by
  have h' : FnAt S w (.slice [x] [chain xs]) cs := h
  unfold FnAt at h'
  split at h'
  ·rename_i heq
   obtain ⟨vp, vb, nb, zs, bcs, rest, e, a1, a2, a3, a4, a5⟩ := h'
   injection heq with h1 h2
   injection h1 with h1 _
   injection h2 with h2 _
   subst h2
   subst h1
   subst e
   show FnAt S w (.slice [_] [chain (xs ++ [t])]) _
   rw [FnAt]
   exact ⟨vp, vb, nb, zs, bcs, rest ++ ds, by simp, a1, a2, a3, a4, fns_snoc ht xs rest a5⟩
  ·rename_i heq
   injection heq with h1 h2
   cases h1
  ·exact h'.elim
theorem res41 {fn : Func} {p : Tmp} (h : fn.results = #[.cell p 86]) (tmps : Array Value) (w : World) (g : Nat) (a0 a1 a2 a3 : Value) (hp : tmps.getD p undef = .pointer (some ⟨g, 0, none⟩)) (hg : w.heap[g]? = some (.cells #[a0, a1, a2, a3] 86)) :
  (results fn tmps).run Tryz.prog w = .ok (.agg #[a0, a1, a2, a3]) w := by
 rw [zR h, hp]
 have h1 : (loadVar 86 ⟨g, 0, none⟩).run Tryz.prog w = .ok (.agg #[a0, a1, a2, a3]) w := run_loadVar_row w g 86 86 _ (0, 0) _ hg Tryz.underlying86 rfl (by kernel_rfl)
 simp only [asAddr, Sem.run_pure, Result.andThen_ok, h1]
def FPost (w : World) (P T : Nat) (r : R Tr) (e : Ending) (w' : World) : Prop :=
 (∃ t l' cs o' c', r = .ok (t, l') ∧ e = .returned (.agg cs) ∧ FnAt (Fr w.heap.size) w' (cc t ce) cs.toList ∧ PS w' P T o' c' l' ∧ Gr P w w') ∨ (∃ k p, r = .error (k, p) ∧ zC k p e w' ∧ Gr P w w')
structure FW (w : World) (P T q m : Nat) (cs : Array Value) (o c d : Nat) (l : List Tok) (W : World) : Prop where
 res : W.heap[w.heap.size]? = some (.cells #[.string ⟨#[]⟩, .int .i64 0, .slice none 0 0, .slice none 0 0] 86)
 blk : W.heap[q]? = some (.cells cs 86)
 gr : Gr P w W
 ltq : w.heap.size < q
 ltP : P < w.heap.size
 ltT : T < w.heap.size
 a : At W P T o c d l
 lt : q < m
 le : m ≤ W.heap.size
theorem FW.set {w W : World} {P T q m o c d : Nat} {cs : Array Value} {l : List Tok} (h : FW w P T q m cs o c d l W) (i : Nat) (v : Value) : FW w P T q m (cs.setIfInBounds i v) o c d l (W.setCell ⟨q, i, none⟩ v) := by
 have hP := h.ltP
 have hq := h.ltq
 have hT := h.ltT
 refine ⟨?_, heap_setCell_same _ _ _ _ _ _ h.blk, h.gr.set (by omega), hq, hP, hT, ⟨h.a.env.of_set (by have := h.a.far; omega), h.a.ps.set (by omega) (by omega), h.a.ends, h.a.far, h.a.deep⟩, h.lt, by simp; exact h.le⟩
 rw [heap_setCell_other _ _ _ _ (by show w.heap.size ≠ q; omega)]
 exact h.res
theorem FW.go {w W W' : World} {P T q m o c d o' c' : Nat} {cs : Array Value} {l l' : List Tok} (h : FW w P T q m cs o c d l W) (hg : Gr P W W') (hp : PS W' P T o' c' l') (he : Ends l') (hl : l'.length ≤ l.length) : FW w P T q m cs o' c' d l' W' :=
 ⟨hg.blk h.res (by have := h.ltP; omega), hg.blk h.blk (by have := h.ltP; have := h.ltq; omega), h.gr.trans hg, h.ltq, h.ltP, h.ltT, h.a.go hg hp he (by have := h.a.deep; omega), h.lt, Nat.le_trans h.le hg.size⟩
theorem FW.kset {w W : World} {P T q m o c d : Nat} {cs : Array Value} {l : List Tok} (h : FW w P T q m cs o c d l W) (i : Nat) (v : Value) : Keeps (Fr m) W (W.setCell ⟨q, i, none⟩ v) := Keeps.set h.lt
theorem FW.kgo {w W W' : World} {P T q m o c d : Nat} {cs : Array Value} {l : List Tok} (h : FW w P T q m cs o c d l W) (hg : Gr P W W') : Keeps (Fr m) W W' := Keeps.gr h.a.ps hg
structure FnL (w : World) (P T q m d : Nat) (z : ByteArray) (p : Int) (M : R Tr) (l : List Tok) (b : Bool) (wr : World) : Prop where
 at' : ∃ (xs : List (By × Int)) (lc : List Tok) (o' c' : Nat) (qv : Option Addr) (cv : Nat), FW w P T q m #[.string z, .int .i64 p, .slice qv xs.length cv, .slice none 0 0] o' c' d lc wr ∧ wr.ownsRow m 144 2 (.slice qv xs.length cv) xs.length (psC xs) ∧ xs.length + lc.length ≤ l.length + 1 ∧ lc.length ≤ l.length ∧
  (b = false → M = .ok (psT xs, lc)) ∧ (b = true → ∃ f, M = cat (xs.map fun x => pr x.1 x.2) (qW f lc) ∧ lc.length + 2 ≤ f)
theorem function_walk (d : Nat) (w : World) (P T o c : Nat) (l : List Tok) (h : At w P T o c d l) :
  Calls Tryz.prog 61 #[.pointer (some ⟨P, 0, none⟩)] w (FPost w P T (fnV l)) := by
 obtain ⟨y, hy, hyt⟩ := zM (hd l).t
 obtain ⟨i0, hi0, hz0, hs0, hb0⟩ := info_parts info83
 have HA : Hid (At w P T o c d l) := h
 have HY : Hid (str (hd l).t = .string y) := hy
 have HG0 : Hid (∀ e w', FPost w P T (fnV l) e w' → FPost w P T (fnV l) e w') := fun _ _ h => h
 generalize hG : FPost w P T (fnV l) = G at *
 clear HG0
 have HG0 : Hid (∀ e w', FPost w P T (fnV l) e w' → G e w') := fun e w' h => by rw [← hG]; exact h
 have h2 := fld2
 clear h hy hyt hG
 go_enter Tryz.func61, Tryz.ntmps61
 go_wp2_with (go_at_call 59; fail)
 have hbZ : Below w.heap.size w (w.alloc (.cells #[.string ⟨#[]⟩, .int .i64 0, .slice none 0 0, .slice none 0 0] 86)) := (Below.refl _ _).alloc (Nat.le_refl _) _
 refine (qB _ P T o c (hd l) l.tail (HA.out.below hbZ).psc y HY.out).mono ?_
 rintro e w1 ⟨rfl, hb⟩
 have hg : Gr P (w.alloc (.cells #[.string ⟨#[]⟩, .int .i64 0, .slice none 0 0, .slice none 0 0] 86)) w1 := ze hb
 have HR1 : Hid (w1.heap[w.heap.size]? = some (.cells #[.string ⟨#[]⟩, .int .i64 0, .slice none 0 0, .slice none 0 0] 86)) := hg.blk (heap_alloc_last w _) (by have := HA.out.ltP; omega)
 have HB1 : Hid (Below w.heap.size w w1) := hbZ.trans (hb.mono (by simp))
 clear hb hg hbZ
 go_wp2_with (go_at_call 92; fail)
 obtain ⟨W1, hW1⟩ : ∃ W1, W1 = w1.alloc (.cells #[.string ⟨#[]⟩, .int .i64 ((hd l).p : Int), .slice none 0 0, .slice none 0 0] 86) := ⟨_, rfl⟩
 obtain ⟨q, hq⟩ : ∃ q, q = w1.heap.size := ⟨_, rfl⟩
 have hsz1 : w.heap.size < w1.heap.size := (Array.getElem?_eq_some_iff.1 HR1.out).1
 obtain ⟨m, hm⟩ : ∃ m, m = w1.heap.size + 1 := ⟨_, rfl⟩
 have HS1 : Hid (FW w P T q m #[.string ⟨#[]⟩, .int .i64 ((hd l).p : Int), .slice none 0 0, .slice none 0 0] o c d l W1) := by
  refine ⟨?_, ?_, ?_, by omega, HA.out.ltP, HA.out.ltT, ?_, by omega, ?_⟩
  ·rw [hW1, zc hsz1]; exact HR1.out
  ·rw [hW1, hq]; exact heap_alloc_last w1 _
  ·rw [hW1]; exact (ze HB1.out).alloc _
  ·rw [hW1]; exact (HA.out.below HB1.out).below ((Below.refl _ _).alloc (Nat.le_refl _) _)
  ·rw [hW1, hm]; simp
 rw [← hW1, ← hq]
 clear hW1 hq hsz1 hm HB1 HR1
 refine (nee_at HS1.out.a ⟨#[102, 110]⟩ (by decide)).mono ?_
 rintro e w2 (⟨hv, rfl, hp, hg, he, hlt⟩ | ⟨hv, ⟨b, rfl, hb⟩, hg⟩)
 rotate_left
 ·refine ⟨rfl, HG0.out _ _ (.inr ⟨_, _, ?_, ⟨b, rfl, hb⟩, HS1.out.gr.trans hg⟩)⟩
  have hv' : zh [102, 110] l = _ := hv
  unfold fnV
  rw [hv']
  rfl
 have HV2 : Hid (zh [102, 110] l = .ok ((), l.tail)) := hv
 have HS2 : Hid (FW w P T q m #[.string ⟨#[]⟩, .int .i64 ((hd l).p : Int), .slice none 0 0, .slice none 0 0] (o + 3) (c - 1) d l.tail w2) := HS1.out.go hg hp he (Nat.le_of_lt hlt)
 have HL2 : Hid (l.tail.length < l.length) := hlt
 clear hv hp hg he hlt HS1
 go_wp2_with (go_at_call 93; fail)
 obtain ⟨z, hz, hzt⟩ := zM (hd l.tail).t
 have HZ : Hid (str (hd l.tail).t = .string z) := hz
 clear hz hzt
 refine (nm_at HS2.out.a).mono ?_
 rintro e w3 (⟨hv, rfl, hp, hg, he, hlt⟩ | ⟨k, hv, ⟨b, rfl, hb⟩, hg⟩)
 rotate_left
 ·refine ⟨rfl, HG0.out _ _ (.inr ⟨k, _, ?_, ⟨b, rfl, hb⟩, HS2.out.gr.trans hg⟩)⟩
  unfold fnV
  rw [HV2.out]
  show bnd (zQ l.tail) _ = _
  rw [hv]
  rfl
 have HN3 : Hid (zQ l.tail = .ok ((hd l.tail).t, l.tail.tail)) := hv
 have HS3 : Hid (FW w P T q m #[.string ⟨#[]⟩, .int .i64 ((hd l).p : Int), .slice none 0 0, .slice none 0 0] (o + 3 + 3) (c - 1 - 1) d l.tail.tail w3) := HS2.out.go hg hp he (Nat.le_of_lt hlt)
 have HL3 : Hid (l.tail.tail.length < l.tail.length) := hlt
 have f0 := zb HS3.out.blk 0
 have c0 := z_ (i := 0) HS3.out.blk rfl
 rw [HZ.out]
 clear hv hp hg he hlt HS2
 go_wp2_with (go_at_call 92; fail)
 obtain ⟨W4, hW4⟩ : ∃ W4, W4 = w3.setCell ⟨q, 0, none⟩ (.string z) := ⟨_, rfl⟩
 have HS4 : Hid (FW w P T q m #[.string z, .int .i64 ((hd l).p : Int), .slice none 0 0, .slice none 0 0] (o + 3 + 3) (c - 1 - 1) d l.tail.tail W4) := by
  show FW _ _ _ _ _ _ _ _ _ _ _
  rw [hW4]
  exact HS3.out.set 0 _
 rw [← hW4]
 clear hW4 HS3 f0 c0
 refine (nee_at HS4.out.a ⟨#[40]⟩ (by decide)).mono ?_
 rintro e w5 (⟨hv, rfl, hp, hg, he, hlt⟩ | ⟨hv, ⟨b, rfl, hb⟩, hg⟩)
 rotate_left
 ·refine ⟨rfl, HG0.out _ _ (.inr ⟨_, _, ?_, ⟨b, rfl, hb⟩, HS4.out.gr.trans hg⟩)⟩
  have hv' : zh [40] l.tail.tail = _ := hv
  unfold fnV
  rw [HV2.out]
  show bnd (zQ l.tail) _ = _
  rw [HN3.out]
  show bnd (zh [40] l.tail.tail) _ = _
  rw [hv']
  rfl
 have HV5 : Hid (zh [40] l.tail.tail = .ok ((), l.tail.tail.tail)) := hv
 have HS5 : Hid (FW w P T q m #[.string z, .int .i64 ((hd l).p : Int), .slice none 0 0, .slice none 0 0] (o + 3 + 3 + 3) (c - 1 - 1 - 1) d l.tail.tail.tail w5) := HS4.out.go hg hp he (Nat.le_of_lt hlt)
 have HL5 : Hid (l.tail.tail.tail.length < l.tail.tail.length) := hlt
 clear hv hp hg he hlt HS4
 obtain ⟨l3, hl3⟩ : ∃ l3, l3 = l.tail.tail.tail := ⟨_, rfl⟩
 have HM1 : Hid (fnV l = bnd (parsV l3) fun ps l4 => bnd (blockV 0 l4) fun b l5 => .ok (fnc (hd l.tail).t (hd l).p ps b, l5)) := by
  show _ = _
  unfold fnV
  rw [HV2.out]
  show bnd (zQ l.tail) _ = _
  rw [HN3.out]
  show bnd (zh [40] l.tail.tail) _ = _
  rw [HV5.out, hl3]
  rfl
 have HL6 : Hid (l3.length + 3 ≤ l.length) := by show _ ≤ _; have := HL2.out; have := HL3.out; have := HL5.out; rw [hl3]; omega
 rw [← hl3] at HS5
 clear hl3 HL2 HL3 HL5 HV2 HN3 HV5
 obtain ⟨M, hM⟩ : ∃ M, M = parsV l3 := ⟨_, rfl⟩
 have HM : Hid (M = parsV l3) := hM
 clear hM
 go_wp2_with (go_at_call 94; fail)
 refine (qH HS5.out.a ⟨#[41]⟩ (by decide)).mono ?_
 have HI0 : Hid (∀ e w1, (((hd l3).t = [41] ∧ e = Ending.returned (.bool true) ∧ PS w1 P T (o + 3 + 3 + 3 + 3) (c - 1 - 1 - 1 - 1) l3.tail ∧ Gr P w5 w1 ∧ Ends l3.tail ∧ l3.tail.length < l3.length) ∨ ((hd l3).t ≠ [41] ∧ e = Ending.returned (.bool false) ∧ Below w5.heap.size w5 w1)) → ∃ b : Bool, e = .returned (.bool (!b)) ∧ FnL w P T q m d z ((hd l).p : Int) M l3 b w1) := by
  rintro e w1 (⟨hv, rfl, hp, hg, he, hlt⟩ | ⟨hv, rfl, hb⟩)
  ·refine ⟨false, rfl, ⟨[], l3.tail, _, _, none, 0, HS5.out.go hg hp he (Nat.le_of_lt hlt), World.ownsRow_nil _ _ _ _, by simp; omega, by omega, fun _ => ?_, fun h => by cases h⟩⟩
   rw [HM.out]
   unfold parsV
   rw [if_pos hv]
   rfl
  ·refine ⟨true, rfl, ⟨[], l3, _, _, none, 0, HS5.out.go (ze hb) (HS5.out.a.ps.below hb) HS5.out.a.ends (Nat.le_refl _), World.ownsRow_nil _ _ _ _, by simp, Nat.le_refl _, (fun h => by cases h), fun _ => ⟨l3.length + 2, ?_, Nat.le_refl _⟩⟩⟩
   rw [HM.out]
   unfold parsV
   rw [if_neg hv]
   cases qW (l3.length + 2) l3 <;> rfl
 intro e w6 hpost
 obtain ⟨b, rfl, hI⟩ := HI0.out e w6 hpost
 have HI1 : Hid (FnL w P T q m d z ((hd l).p : Int) M l3 b w6) := hI
 clear hpost hI HI0
 go_wp2_with fail
 go_loopw [4] (fun v4 wr => ∃ (b : Bool), v4 = .bool b ∧ Hid (FnL w P T q m d z ((hd l).p : Int) M l3 b wr)) (fun _ wr => plen P wr)
 case atStart => exact ⟨b, by cases b <;> rfl, HI1.out⟩
 case round =>
  clear HI1
  obtain ⟨b, rfl, HI⟩ := hrel
  obtain ⟨xs, lc, o0, c0, qv, cv, hS, hown, hkl, hl, hbf, hbt⟩ := HI.out
  have hkk : xs.length ≤ 200000 := by have := HA.out.deep; have := HL6.out; omega
  cases b with
  | false =>
   have HS0 : Hid (FW w P T q m #[.string z, .int .i64 ((hd l).p : Int), .slice qv xs.length cv, .slice none 0 0] o0 c0 d lc wr) := hS
   have HO0 : Hid (wr.ownsRow m 144 2 (.slice qv xs.length cv) xs.length (psC xs)) := hown
   have HMM : Hid (M = .ok (psT xs, lc)) := hbf rfl
   clear hown hkl hl hbf hbt hS HI
   go_wp2_with (go_at_call 97; fail)
   have hA0 : At wr P T o0 c0 0 lc := HS0.out.a.zero
   refine (block_at hA0).mono ?_
   rintro e w3 (⟨t, l1, v, nb, bcs, o1, c1, hr, rfl, hrow, hx, hp, hg⟩ | ⟨k1, p1, hr, ⟨b, rfl, hb⟩, hg⟩)
   rotate_left
   ·refine ⟨rfl, HG0.out _ _ (.inr ⟨k1, p1, ?_, ⟨b, rfl, hb⟩, HS0.out.gr.trans hg⟩)⟩
    rw [HM1.out, ← HM.out, HMM.out]
    show bnd (blockV 0 lc) _ = _
    rw [hr]
    rfl
   obtain ⟨qb, cb, rfl⟩ := zd hrow
   obtain ⟨he1, hlt1⟩ := qy _ 0 0 lc t l1 HS0.out.a.ends hr
   have hS3 := HS0.out.go hg hp he1 (Nat.le_of_lt hlt1)
   have HS3 : Hid (FW w P T q m #[.string z, .int .i64 ((hd l).p : Int), .slice qv xs.length cv, .slice none 0 0] o1 c1 d l1 w3) := hS3
   have HO3 : Hid (RowS (Fr m) w3 144 2 (.slice qv xs.length cv) xs.length (psC xs)) := ⟨own_mono ((HS0.out.kgo hg).row (by decide) HO0.out (fun i hi => (HO0.out.lt i hi).1)) (Nat.zero_le _), fun i hi => (HO0.out.lt i hi).1⟩
   have HO4 : Hid (RowS (Fr m) w3 147 7 (.slice qb nb cb) nb bcs) := row_fr hrow HS0.out.le
   have HX3 : Hid (StAt (Fr m) w3 t bcs) := hx.old HS0.out.le
   have HR3 : Hid (blockV 0 lc = .ok (t, l1)) := hr
   have q0 := z_ (i := 0) hS3.blk rfl
   have q1 := z_ (i := 1) hS3.blk rfl
   have q2 := z_ (i := 2) hS3.blk rfl
   have q3 := z_ (i := 3) hS3.blk rfl
   have qf := zb hS3.blk 3
   have r0 := z_ (i := 0) hS3.res rfl
   have r1 := z_ (i := 1) hS3.res rfl
   have r2 := z_ (i := 2) hS3.res rfl
   have r3 := z_ (i := 3) hS3.res rfl
   have rf := zb hS3.res
   have hne : ¬ w.heap.size = q := by have := hS3.ltq; omega
   have hne2 : ¬ q = w.heap.size := by have := hS3.ltq; omega
   clear hr hrow hx hp hg he1 hlt1 hA0 hS3
   generalize hk : xs.length = k at *
   have HK : Hid (xs.length = k) := hk
   clear hk
   go_wp2
   try simp only [Exit.inBlock, Exit.then]
   have hS4 : FW w P T q m #[.string z, .int .i64 ((hd l).p : Int), .slice qv k cv, .slice qb nb cb] o1 c1 d l1 (w3.setCell ⟨q, 3, none⟩ (.slice qb nb cb)) := HS3.out.set 3 _
   have hK4 := HS3.out.kset 3 (.slice qb nb cb)
   have hm : w.heap.size < m := by have := hS4.ltq; have := hS4.lt; omega
   have hX4 : FnAt (Fr m) (w3.setCell ⟨q, 3, none⟩ (.slice qb nb cb)) (cc (fnc (hd l.tail).t (hd l).p (psT xs) t) ce) [.string z, .int .i64 ((hd l).p : Int), .slice qv k cv, .slice qb nb cb] := by
    rw [FnAt]
    refine ⟨_, _, nb, xs, bcs, [], by rw [HZ.out]; rfl, rfl, ?_, HO4.out.kept hK4 (by decide), StAt.kept hK4 _ _ HX3.out, by rw [FnAt]⟩
    rw [HK.out]
    exact HO3.out.kept hK4 (by decide)
   have hle : w.heap.size ≤ w.heap.size := Nat.le_refl _
   refine bodyPost_ret (res41 Tryz.results61 _ _ w.heap.size _ _ _ _ rfl (heap_setCell_same _ _ _ _ _ _ (heap_setCell_same _ _ _ _ _ _ (heap_setCell_same _ _ _ _ _ _ (heap_setCell_same _ _ _ _ _ _ hS4.res))))) rfl (HG0.out _ _ (.inl ⟨fnc (hd l.tail).t (hd l).p (psT xs) t, l1, _, o1, c1, ?_, rfl, FnAt.old (FnAt.kept ((((Keeps.set hm).trans (Keeps.set hm)).trans (Keeps.set hm)).trans (Keeps.set hm)) _ _ hX4) (Nat.le_of_lt hm), (((hS4.a.ps.set hS4.ltP hS4.ltT).set hS4.ltP hS4.ltT).set hS4.ltP hS4.ltT).set hS4.ltP hS4.ltT, (((hS4.gr.set hle).set hle).set hle).set hle⟩))
   rw [HM1.out, ← HM.out, HMM.out]
   show bnd (blockV 0 lc) _ = _
   rw [HR3.out]
   rfl
  | true =>
   obtain ⟨f, hM0, hf1⟩ := hbt rfl
   obtain ⟨f, rfl⟩ : ∃ f', f = f' + 1 := ⟨f - 1, by omega⟩
   have HM0 : Hid (M = cat (xs.map fun x => pr x.1 x.2) (qW (f + 1) lc)) := hM0
   have HPL : Hid (plen P wr = lc.length) := hS.a.ps.plen
   have HF0 : Hid (lc.length + 2 ≤ f + 1 ∧ lc.length ≤ l3.length ∧ xs.length + lc.length ≤ l3.length + 1) := ⟨hf1, hl, hkl⟩
   have HS0 : Hid (FW w P T q m #[.string z, .int .i64 ((hd l).p : Int), .slice qv xs.length cv, .slice none 0 0] o0 c0 d lc wr) := hS
   have HSd : Hid (FW w P T q m #[.string z, .int .i64 ((hd l).p : Int), .slice qv xs.length cv, .slice none 0 0] o0 c0 d lc wr.drew) := hS.go (ze (Below.refl _ _).drew) (hS.a.ps.below (Below.refl _ _).drew) hS.a.ends (Nat.le_refl _)
   have HO0 : Hid (wr.drew.ownsRow m 144 2 (.slice qv xs.length cv) xs.length (psC xs)) := hown.drew
   have c2 := z_ (i := 2) hS.blk rfl
   clear hown hkl hl hbf hbt hM0 hf1 hS HI
   obtain ⟨k, hk⟩ : ∃ k, k = xs.length := ⟨_, rfl⟩
   rw [← hk] at HS0 HSd HO0 HF0 hkk c2
   have HK : Hid (k = xs.length) := hk
   clear hk
   go_wp2_with (go_at_call 96; fail)
   go_region_law (first
    |(go_simp; go_at_call 96; refine (param_walk d _ P T _ _ lc HSd.out.a).mono ?_; rintro e w3 (⟨nm, ty, l1, o1, c1, yp, hr, hyp, rfl, hp, hg⟩ | ⟨k1, p1, hr, ⟨b, rfl, hb⟩, hg⟩); rotate_left; exact (by refine ⟨rfl, HG0.out _ _ (.inr ⟨k1, p1, ?_, ⟨b, rfl, hb⟩, HSd.out.gr.trans hg⟩)⟩; rw [HM1.out, ← HM.out, HM0.out, qW, hr]; rfl); obtain ⟨he1, hlt1⟩ := par_tail hr HS0.out.a.ends; have hS3 := HSd.out.go hg hp he1 (Nat.le_of_lt hlt1); have HS3 : Hid (FW w P T q m #[.string z, .int .i64 ((hd l).p : Int), .slice qv k cv, .slice none 0 0] o1 c1 d l1 w3) := hS3; have HR3 : Hid (parV lc = .ok (pr nm ty, l1)) := hr; have HYP : Hid (str nm = .string yp) := hyp; have HE3 : Hid (l1.length < lc.length) := hlt1; have cc2 := z_ (i := 2) hS3.blk rfl; have ca2 : (w3.alloc (.cells #[.string yp, .int .i64 ty] 144)).cell? ⟨q, 2, none⟩ = some (.slice qv k cv) := z_ (i := 2) (qJ hS3.blk _) rfl; have HBlk : Hid (∀ i, (Value.slice qv k cv).ownBlock = some i → m ≤ i ∧ i < wr.heap.size) := fun i hi => HO0.out.lt i hi; have HO4 : Hid ((w3.alloc (.cells #[.string yp, .int .i64 ty] 144)).ownsRow m 144 2 (.slice qv k cv) k (psC xs)) := ((HSd.out.kgo hg).row (by decide) HO0.out (fun i hi => (HO0.out.lt i hi).1)).alloc _; have HN4 : Hid (∀ (i : Nat) (x : Value), ([.string yp, .int .i64 ty] : List Value)[i]? = some x → (w3.alloc (.cells #[.string yp, .int .i64 ty] 144)).cell? ((⟨w3.heap.size, 0, none⟩ : Addr).add i) = some x) := World.news_of_block (cs := #[.string yp, .int .i64 ty]) (t := 144) (fr := (0, 0)) (heap_alloc_last w3 _); have H14 : Hid (∀ u ∈ ([.string yp, .int .i64 ty] : List Value), u.oneCell' = true) := (fun u hu => by simp at hu; rcases hu with rfl | rfl <;> rfl); have HZ4 : Hid (m ≤ (w3.alloc (.cells #[.string yp, .int .i64 ty] 144)).heap.size) := (by have := HS3.out.le; show m ≤ _; simp; omega); clear hr hyp hp hg he1 hlt1 hS3; dsimp only)
    |(refine step_append_lies _ rfl (.tmp 23) (.tmp 26) 65 rfl m 144 i0 _ 2 24 Tryz.underlying65 hi0 hz0 hs0 hb0 rfl (by decide) (.slice qv k cv) k (psC xs) (by simp [Act.eval]) HO4.out ⟨w3.heap.size, 0, none⟩ 1 1 [.string yp, .int .i64 ty] (by simp [Act.eval]) rfl HN4.out H14.out (by decide) (by unfold maxLen; omega) (by omega) HZ4.out (w3.heap.size + 1) (by simp) ?_; intro g5 cap5 w5 hown5 hgrow5 hg5 hlt5; obtain ⟨hG5, hP5, hK5⟩ := grown_app HS3.out.gr hgrow5 (fun i hi => by have := (HBlk.out i hi).1; have := HS3.out.ltq; have := HS3.out.lt; omega) HS3.out.ltP HS3.out.ltT HS3.out.a.ps; have hq5 : w5.heap[q]? = some (.cells #[.string z, .int .i64 ((hd l).p : Int), .slice qv k cv, .slice none 0 0] 86) := hK5 q _ 86 (fun e => by have := (HBlk.out q e.symm).1; have := HS3.out.lt; omega) (by decide) HS3.out.blk; have hr5 : w5.heap[w.heap.size]? = some (.cells #[.string ⟨#[]⟩, .int .i64 0, .slice none 0 0, .slice none 0 0] 86) := hK5 _ _ 86 (fun e => by have := (HBlk.out _ e.symm).1; have := HS3.out.ltq; have := HS3.out.lt; omega) (by decide) HS3.out.res; have HS5 : Hid (FW w P T q m #[.string z, .int .i64 ((hd l).p : Int), .slice qv k cv, .slice none 0 0] o1 c1 d l1 w5) := ⟨hr5, hq5, hG5, HS3.out.ltq, HS3.out.ltP, HS3.out.ltT, HA.out.go hG5 hP5 HS3.out.a.ends (by have := HS3.out.a.deep; omega), HS3.out.lt, by have h1 := hgrow5.size; simp at h1; have := HS3.out.le; omega⟩; have HO5 : Hid (w5.ownsRow m 144 2 (.slice (some ⟨g5, 0, none⟩) (k + 1) cap5) (k + 1) (psC xs ++ [.string yp, .int .i64 ty])) := hown5; have f5 := zb hq5 2; have cc5 := z_ (i := 2) hq5 rfl; have HG5 : Hid (m ≤ g5) := (by rcases hg5 with hh | hh; exact (HBlk.out g5 hh).1; have := HS3.out.le; show m ≤ g5; omega); clear hown5 hgrow5 hg5 hlt5 hG5 hP5 hK5 hq5 hr5))
   all_goals
    go_wp2_with (go_at_call 95; fail)
    obtain ⟨W6, hW6⟩ : ∃ W6, W6 = w5.setCell ⟨q, 2, none⟩ (.slice (some ⟨g5, 0, none⟩) (k + 1) cap5) := ⟨_, rfl⟩
    have HS6 : Hid (FW w P T q m #[.string z, .int .i64 ((hd l).p : Int), .slice (some ⟨g5, 0, none⟩) (k + 1) cap5, .slice none 0 0] o1 c1 d l1 W6) := by
     show FW _ _ _ _ _ _ _ _ _ _ _
     rw [hW6]
     exact HS5.out.set 2 _
    have HO6 : Hid (W6.ownsRow m 144 2 (.slice (some ⟨g5, 0, none⟩) (k + 1) cap5) (k + 1) (psC xs ++ [.string yp, .int .i64 ty])) := by
     show World.ownsRow _ _ _ _ _ _ _
     rw [hW6]
     exact (HS5.out.kset 2 _).row (by decide) HO5.out (fun i hi => (HO5.out.lt i hi).1)
    rw [← hW6]
    clear hW6 HS5 HO5 HO4 HN4 H14 HZ4 HBlk HO0 HSd
    refine (more_at HS6.out.a).mono ?_
    rintro e w7 (⟨b1, hv, rfl, hp, hg, he, hlt⟩ | ⟨hv1, hv2, ⟨a, rfl, ha⟩, hg⟩)
    rotate_left
    ·refine ⟨rfl, HG0.out _ _ (.inr ⟨3, (hd l1).p, ?_, ⟨a, rfl, ha⟩, HS6.out.gr.trans hg⟩)⟩
     rw [HM1.out, ← HM.out, HM0.out, qW, HR3.out]
     show bnd (cat _ (if (hd l1).t = [44] then _ else bnd (zh [41] l1) _)) _ = _
     unfold zh
     rw [if_neg hv1, if_neg hv2]
     rfl
    have HI7 : Hid (FnL w P T q m d z ((hd l).p : Int) M l3 b1 w7) := by
     have hxl : (xs ++ [(nm, ty)]).length = k + 1 := by simp [HK.out]
     have hpc : psC (xs ++ [(nm, ty)]) = psC xs ++ [.string yp, .int .i64 ty] := by rw [← HYP.out]; simp [psC]
     refine ⟨⟨xs ++ [(nm, ty)], l1.tail, o1 + 3, c1 - 1, some ⟨g5, 0, none⟩, cap5, ?_, ?_, ?_, ?_, ?_, ?_⟩⟩
     ·rw [hxl]; exact HS6.out.go hg hp he (Nat.le_of_lt hlt)
     ·rw [hxl, hpc]; exact (HS6.out.kgo hg).row (by decide) HO6.out (fun i hi => (HO6.out.lt i hi).1)
     ·rw [hxl]; have := HF0.out; have := HE3.out; omega
     ·have := HF0.out; have := HE3.out; omega
     ·rintro rfl
      rw [HM0.out, qW, HR3.out]
      have hv' : (hd l1).t = [41] := hv
      show cat _ (if (hd l1).t = [44] then _ else bnd (zh [41] l1) _) = _
      unfold zh
      rw [if_neg (by rw [hv']; decide), if_pos hv']
      show cat _ (.ok (cc (pr nm ty) ce, l1.tail)) = _
      unfold psT
      rw [← foldr_ce, List.map_append, List.foldr_append]
      rfl
     ·rintro rfl
      refine ⟨f, ?_, ?_⟩
      ·rw [HM0.out, qW, HR3.out]
       have hv' : (hd l1).t = [44] := hv
       show cat _ (if (hd l1).t = [44] then bnd (qW f l1.tail) _ else _) = _
       rw [if_pos hv', List.map_append]
       cases qW f l1.tail with
       | error e => rfl
       | ok r => obtain ⟨g, l2⟩ := r; exact (cat_snoc _ (pr nm ty) g l2).symm
      ·have := HF0.out; have := HE3.out; omega
    have HPL7 : Hid (plen P w7 < plen P wr) := by
     show _ < _
     rw [HPL.out, hp.plen]
     have := HE3.out
     omega
    clear hv hp hg he hlt
    go_wp2
    exact ⟨⟨b1, rfl, HI7.out⟩, HPL7.out⟩
theorem info41 : (Tryz.prog.info? 86).map (fun i => (i.zero, i.size, i.bytes)) = some (some (.agg #[.string ⟨#[]⟩, .int .i64 0, .slice none 0 0, .slice none 0 0]), 4, 72) := by kernel_rfl
def GPost (w : World) (P T : Nat) (r : R Tr) (e : Ending) (w' : World) : Prop :=
 (∃ t l' v n cs, r = .ok (t, l') ∧ e = .returned v ∧ w'.ownsRow w.heap.size 86 4 v n cs ∧ FnAt (Fr w.heap.size) w' t cs ∧ Gr P w w') ∨ (∃ k p, r = .error (k, p) ∧ zC k p e w' ∧ Gr P w w')
structure PrgI (w : World) (P T : Nat) (l : List Tok) (M : R Tr) (v : Value) (k : Nat) (wr : World) : Prop where
 at' : ∃ xs ys lc o' c' f, k ≤ 12 ∧ wr.ownsRow w.heap.size 86 4 v k ys ∧ FnAt (fun i => w.heap.size ≤ i ∧ some i ≠ v.ownBlock) wr (chain xs) ys ∧ PS wr P T o' c' lc ∧ Ends lc ∧ lc.length ≤ l.length ∧
  M = cat xs (qE f k lc) ∧ lc.length + 1 ≤ f
 gr : Gr P w wr
theorem program_walk (w : World) (P T o c : Nat) (l : List Tok) (h : At w P T o c 0 l) :
  Calls Tryz.prog 33 #[.pointer (some ⟨P, 0, none⟩)] w (GPost w P T (qE (l.length + 1) 0 l)) := by
 obtain ⟨i0, hi0, hz0, hs0, hb0⟩ := info_parts info41
 have HA : Hid (At w P T o c 0 l) := h
 obtain ⟨M, hM⟩ : ∃ M, M = qE (l.length + 1) 0 l := ⟨_, rfl⟩
 have HI1 : Hid (PrgI w P T l M (.slice none 0 0) 0 w) := by
  refine ⟨⟨[], [], l, o, c, l.length + 1, by omega, World.ownsRow_nil _ _ _ _, by rw [chain, FnAt], h.ps, h.ends, Nat.le_refl _, ?_, Nat.le_refl _⟩, Gr.refl _ _⟩
  rw [hM]
  cases qE (l.length + 1) 0 l <;> rfl
 rw [← hM]
 have HG0 : Hid (∀ e w', GPost w P T M e w' → GPost w P T M e w') := fun _ _ h => h
 generalize hG : GPost w P T M = G at *
 clear HG0
 have HG0 : Hid (∀ e w', GPost w P T M e w' → G e w') := fun e w' h => by rw [← hG]; exact h
 have h0 := fld0
 clear h hM hG
 go_enter Tryz.func33, Tryz.ntmps33
 go_wp2_with fail
 go_loopw [3] (fun v3 wr => ∃ (q : Option Addr) (k c : Nat), v3 = .slice q k c ∧ Hid (PrgI w P T l M (.slice q k c) k wr)) (fun _ wr => plen P wr)
 case atStart => exact ⟨none, 0, 0, rfl, HI1.out⟩
 case round =>
  clear HI1
  obtain ⟨q, k, cq, rfl, HI⟩ := hrel
  obtain ⟨⟨xs, ys, lc, o0, c0, f, hk12, hown, hx, hp, he, hl, hM0, hf1⟩, hgr⟩ := HI.out
  obtain ⟨f, rfl⟩ : ∃ f', f = f' + 1 := ⟨f - 1, by omega⟩
  have HM0 : Hid (M = cat xs (qE (f + 1) k lc)) := hM0
  have HPL : Hid (plen P wr = lc.length) := hp.plen
  have HA0 : Hid (At wr P T o0 c0 0 lc) := HA.out.go hgr hp he (by have := HA.out.deep; omega)
  have HF0 : Hid (lc.length + 1 ≤ f + 1 ∧ lc.length ≤ l.length) := ⟨hf1, hl⟩
  have HX0 : Hid (FnAt (fun i => w.heap.size ≤ i ∧ some i ≠ (Value.slice q k cq).ownBlock) wr (chain xs) ys) := hx
  have HO0 : Hid (wr.ownsRow w.heap.size 86 4 (.slice q k cq) k ys) := hown
  have HGR : Hid (Gr P w wr) := hgr
  clear hown hx hp he hl hgr HI hM0 hf1
  obtain ⟨y, hy, hyt⟩ := zM (hd lc).t
  have HY : Hid (str (hd lc).t = .string y) := hy
  clear hy hyt
  go_wp2_with (go_at_call 59; fail)
  refine (look_at HA0.out y HY.out wr (Below.refl _ _)).mono ?_
  rintro e w3 ⟨rfl, hb⟩
  have hg : Gr P wr w3 := ze hb
  have HX3 : Hid (FnAt (fun i => w.heap.size ≤ i ∧ some i ≠ (Value.slice q k cq).ownBlock) w3 (chain xs) ys) := FnAt.kept (Keeps.gr HA0.out.ps hg) _ _ HX0.out
  have HO3 : Hid (w3.ownsRow w.heap.size 86 4 (.slice q k cq) k ys) := (Keeps.gr (S := fun _ => True) HA0.out.ps hg).row (by decide) HO0.out (fun _ _ => trivial)
  have HA3 : Hid (At w3 P T o0 c0 0 lc) := HA0.out.below hb
  have HG3 : Hid (Gr P w w3) := HGR.out.trans hg
  clear hb hg HX0 HO0 HGR
  by_cases hk3 : (hd lc).k = 3
  ·have bk : (((hd lc).k : Int) != 3) = false := by rw [hk3]; rfl
   have HK3 : Hid ((hd lc).k = 3) := hk3
   clear hk3
   generalize (((hd lc).k : Nat) : Int) = kd at *
   go_wp2
   refine HG0.out _ _ (.inl ⟨chain xs, lc, _, k, ys, ?_, rfl, HO3.out, FnAt.mono (fun _ h _ => h.1) _ _ HX3.out, HG3.out⟩)
   rw [HM0.out, qE, if_pos HK3.out, ← foldr_ce]
   rfl
  have bk : (((hd lc).k : Int) != 3) = true := by simp; omega
  have HK3 : Hid (¬ (hd lc).k = 3) := hk3
  clear hk3
  generalize (((hd lc).k : Nat) : Int) = kd at *
  by_cases h12 : k = 12
  ·subst h12
   go_wp2_with (go_at_call 60; fail)
   refine (fault_any w3 P T o0 c0 (hd lc) lc.tail HA3.out.psc 4).mono ?_
   rintro e x9 ⟨⟨a, rfl, ha⟩, hb⟩
   have HA9 : Hid (x9.heap[a]? = some (.cells #[.int .i64 4, .int .i64 ((hd lc).p : Int)] 139)) := ha
   have HG9 : Hid (Gr P w x9) := HG3.out.trans (ze hb)
   clear ha hb
   go_wp2
   refine ⟨rfl, HG0.out _ _ (.inr ⟨4, (hd lc).p, ?_, ⟨a, rfl, HA9.out⟩, HG9.out⟩)⟩
   rw [HM0.out, qE, if_neg HK3.out, if_pos rfl]
   rfl
  have b12 : ((k : Int) == 12) = false := by simp; omega
  have HK12 : Hid (¬ k = 12) := h12
  clear h12
  go_wp2_with (go_at_call 61; fail)
  refine (function_walk 0 w3 P T o0 c0 lc HA3.out).mono ?_
  rintro e w4 (⟨t, l1, cs, o1, c1, hr, rfl, hx, hp, hg⟩ | ⟨k1, p1, hr, ⟨b, rfl, hb⟩, hg⟩)
  rotate_left
  ·refine ⟨rfl, HG0.out _ _ (.inr ⟨k1, p1, ?_, ⟨b, rfl, hb⟩, HG3.out.trans hg⟩)⟩
   rw [HM0.out, qE, if_neg HK3.out, if_neg HK12.out, hr]
   rfl
  obtain ⟨y0, n1, s2, m2, c2, s3, m3, c3, rfl⟩ := fn_cells hx
  obtain ⟨he1, hlt1⟩ := fn_tail hr HA0.out.ends
  have HR : Hid (fnV lc = .ok (t, l1)) := hr
  have HX4 : Hid (FnAt (Fr w3.heap.size) w4 (cc t ce) [.string y0, .int .i64 n1, .slice s2 m2 c2, .slice s3 m3 c3]) := hx
  have HX5 : Hid (FnAt (fun i => w.heap.size ≤ i ∧ some i ≠ (Value.slice q k cq).ownBlock) w4 (chain xs) ys) := FnAt.kept (Keeps.gr HA3.out.ps hg) _ _ HX3.out
  have HP4 : Hid (PS w4 P T o1 c1 l1) := hp
  have HG4 : Hid (Gr P w w4) := HG3.out.trans hg
  have HSz : Hid (w3.heap.size ≤ w4.heap.size) := hg.size
  have HE4 : Hid (Ends l1 ∧ l1.length < lc.length) := ⟨he1, hlt1⟩
  have HBlk : Hid (∀ i, (Value.slice q k cq).ownBlock = some i → w.heap.size ≤ i ∧ i < w3.heap.size) := fun i hi => HO3.out.lt i hi
  have HO4 : Hid ((w4.alloc (.cells #[.string y0, .int .i64 n1, .slice s2 m2 c2, .slice s3 m3 c3] 86)).ownsRow w.heap.size 86 4 (.slice q k cq) k ys) := ((Keeps.gr (S := fun _ => True) HA3.out.ps hg).row (by decide) HO3.out (fun _ _ => trivial)).alloc _
  have HN3 : Hid (∀ (i : Nat) (x : Value), ([.string y0, .int .i64 n1, .slice s2 m2 c2, .slice s3 m3 c3] : List Value)[i]? = some x → (w4.alloc (.cells #[.string y0, .int .i64 n1, .slice s2 m2 c2, .slice s3 m3 c3] 86)).cell? ((⟨w4.heap.size, 0, none⟩ : Addr).add i) = some x) := World.news_of_block (cs := #[.string y0, .int .i64 n1, .slice s2 m2 c2, .slice s3 m3 c3]) (t := 86) (fr := (0, 0)) (heap_alloc_last w4 _)
  have H13 : Hid (∀ u ∈ ([.string y0, .int .i64 n1, .slice s2 m2 c2, .slice s3 m3 c3] : List Value), u.oneCell' = true) := fun u hu => by simp at hu; rcases hu with rfl | rfl | rfl | rfl <;> rfl
  have HZ3 : Hid (w.heap.size ≤ (w4.alloc (.cells #[.string y0, .int .i64 n1, .slice s2 m2 c2, .slice s3 m3 c3] 86)).heap.size) := by show _ ≤ _; have := HG4.out.size; simp; omega
  clear hr hx hp hg he1 hlt1 b12 bk
  go_wp2_with (at_builtin; refine wpList_append_lies _ rfl _ _ 24 rfl w.heap.size 86 i0 _ 4 72 Tryz.underlying24 hi0 hz0 hs0 hb0 rfl (by decide) _ k _ rfl HO4.out ⟨w4.heap.size, 0, none⟩ 1 1 [.string y0, .int .i64 n1, .slice s2 m2 c2, .slice s3 m3 c3] rfl rfl HN3.out H13.out (by decide) (by unfold maxLen; omega) (by omega) HZ3.out (w4.heap.size + 1) (by simp) ?_)
  intro g5 cap5 w5 hown5 hgrow5 hg5 hlt5
  obtain ⟨hG5, hP5, hK5⟩ := grown_app HG4.out hgrow5 (fun i hi => (HBlk.out i hi).1) HA.out.ltP HA.out.ltT HP4.out
  have HX6 : Hid (FnAt (fun i => w.heap.size ≤ i ∧ some i ≠ (Value.slice (some ⟨g5, 0, none⟩) (k + 1) cap5).ownBlock) w5 (chain (xs ++ [t])) (ys ++ [.string y0, .int .i64 n1, .slice s2 m2 c2, .slice s3 m3 c3])) := by
   have hA : FnAt (fun i => w.heap.size ≤ i ∧ some i ≠ (Value.slice q k cq).ownBlock ∧ i < w4.heap.size) w4 (chain xs) ys := FnAt.mono (fun i h hi => ⟨h.1, h.2, hi⟩) _ _ HX5.out
   have hB : FnAt (fun i => w.heap.size ≤ i ∧ some i ≠ (Value.slice q k cq).ownBlock ∧ i < w4.heap.size) w4 (cc t ce) [.string y0, .int .i64 n1, .slice s2 m2 c2, .slice s3 m3 c3] := FnAt.mono (fun i h hi => ⟨by have : w3.heap.size ≤ i := h; have := HG3.out.size; omega, fun e => by have := (HBlk.out i e.symm).2; have : w3.heap.size ≤ i := h; omega, hi⟩) _ _ HX4.out
   have hC := fns_snoc hB xs ys hA
   refine FnAt.mono (fun i h _ => ⟨h.1, fun e => ?_⟩) _ _ (FnAt.kept (hK5.mono fun b hb => hb.2.1) _ _ hC)
   have e' : i = g5 := by injection e
   rcases hg5 with hh | hh
   ·exact h.2.1 (by rw [hh, e'])
   ·have := h.2.2; omega
  have HI5 : Hid (PrgI w P T l M (.slice (some ⟨g5, 0, none⟩) (k + 1) cap5) (k + 1) w5) := by
   refine ⟨⟨xs ++ [t], _, l1, o1, c1, f, ?_, hown5, HX6.out, hP5, HE4.out.1, ?_, ?_, ?_⟩, hG5⟩
   ·have := HK12.out; omega
   ·have := HF0.out; have := HE4.out.2; omega
   ·rw [HM0.out, qE, if_neg HK3.out, if_neg HK12.out, HR.out]
    show cat xs (bnd (qE f (k + 1) l1) _) = _
    cases qE f (k + 1) l1 with
    | error e => rfl
    | ok r => obtain ⟨g, l2⟩ := r; exact (cat_snoc xs t g l2).symm
   ·have := HF0.out; have := HE4.out.2; omega
  have HPL5 : Hid (plen P w5 < plen P wr) := by
   show _ < _
   rw [HPL.out, hP5.plen]
   exact HE4.out.2
  clear hown5 hgrow5 hg5 hlt5 hG5 hP5 hK5 HX6 HN3 H13 HZ3 HO4 HX4 HX5
  go_wp2
  exact ⟨⟨_, _, _, rfl, HI5.out⟩, HPL5.out⟩
theorem as_at (v : Value) (w : World) : (Instr.typeAssert (.iface 72 v) 20 72 true).run Tryz.prog w = .ok (.tuple #[v, .bool true]) w := by kernel_rfl
theorem eq_nil (w : World) : (binOp .eql 20 .nilIface .nilIface).run Tryz.prog w = .ok (.bool true) w := by kernel_rfl
theorem eq_some (v : Value) (w : World) : (binOp .eql 20 (.iface 72 v) .nilIface).run Tryz.prog w = .ok (.bool false) w := by kernel_rfl
theorem catch_idle (p q : Addr) (w : World) :
  CallsD Tryz.prog 31 #[.pointer (some p), .pointer (some q)] .returning w fun e u' w' => e = .returned (.tuple #[]) ∧ u' = .returning ∧ w' = w := by
 have h1 := eq_nil
 refine callsD_of_wpS Tryz.func31 rfl fun c₀ cs hu => ?_
 apply wpS_seq
 apply wpS_region
 simp [wpOpsS, go_sem, recoverD, hu, Tryz.ntmps31, Exit.thenS]
 apply wpS_seq
 apply wpS_seq
 apply wpS_region
 simp [wpOpsS, go_sem, Exit.thenS, h1]
 refine wpS_cond (t := true) (by simp [Act.eval, Array.replicate]) ?_
 simp only [if_true]
 refine wpS_of_wp (wp_ret ?_)
 cases c₀
 simp_all [bodyPostS, results, Tryz.results31, Exit.thenS]
theorem catch_threw (b1 b2 a : Nat) (x y : Value) (w : World) (h1 : w.cell? ⟨b1, 0, none⟩ = some x) (h2 : w.cell? ⟨b2, 0, none⟩ = some y) (f1 : w.frozen? ⟨b1, 0, none⟩ = false) (f2 : w.frozen? ⟨b2, 0, none⟩ = false) (hne : b1 ≠ b2) :
  CallsD Tryz.prog 31 #[.pointer (some ⟨b1, 0, none⟩), .pointer (some ⟨b2, 0, none⟩)] (.panicking [{ v := .iface 72 (.pointer (some ⟨a, 0, none⟩)), recovered := false }]) w fun e u' w' => e = .returned (.tuple #[]) ∧ u' = .panicking [{ v := .iface 72 (.pointer (some ⟨a, 0, none⟩)), recovered := true }] ∧ w' = (w.setCell ⟨b1, 0, none⟩ (.slice none 0 0)).setCell ⟨b2, 0, none⟩ (.iface 72 (.pointer (some ⟨a, 0, none⟩))) := by
 have e1 := eq_some
 have e2 := as_at
 refine callsD_of_wpS Tryz.func31 rfl fun c₀ cs hu => ?_
 apply wpS_seq
 apply wpS_region
 simp [wpOpsS, go_sem, recoverD, hu, Tryz.ntmps31, Exit.thenS]
 apply wpS_seq
 apply wpS_seq
 apply wpS_region
 simp [wpOpsS, go_sem, Exit.thenS, e1]
 refine wpS_cond (t := false) (by simp [Act.eval, Array.replicate]) ?_
 simp only [Bool.false_eq_true, if_false]
 refine wpS_of_wp (wp_skip ?_)
 simp only [Exit.thenS]
 apply wpS_seq
 apply wpS_region
 simp [wpOpsS, go_sem, Exit.thenS, e2]
 apply wpS_seq
 apply wpS_seq
 apply wpS_region
 simp [wpOpsS, go_sem, Exit.thenS]
 refine wpS_cond (t := false) (by simp [Act.eval, Array.replicate]) ?_
 simp only [Bool.false_eq_true, if_false]
 refine wpS_of_wp (wp_skip ?_)
 simp only [Exit.thenS]
 apply wpS_region
 simp [wpOpsS, go_sem, h1, h2, f1, f2, bodyPostS, results, Tryz.results31]
end Go.Proofs.YtnfhpdbbfejioaaGreatDoor
