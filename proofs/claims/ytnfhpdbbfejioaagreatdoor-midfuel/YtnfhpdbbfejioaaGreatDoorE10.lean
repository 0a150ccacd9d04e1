/- UD -/
import Derived.Test.YtnfhpdbbfejioaaGreatDoorE09
namespace Go.Proofs.YtnfhpdbbfejioaaGreatDoor
set_option linter.unusedVariables false
set_option linter.unusedSimpArgs false
set_option maxRecDepth 100000
set_option maxHeartbeats 16000000
open Go Go.RowKit
def SPost (w : World) (P T : Nat) (r : R Tr) (e : Ending) (w' : World) : Prop :=
 (∃ t l' cs o' c', r = .ok (t, l') ∧ e = .returned (.agg cs) ∧ StAt (Fr w.heap.size) w' (cc t ce) cs.toList ∧ PS w' P T o' c' l' ∧ Gr P w w') ∨ (∃ k p, r = .error (k, p) ∧ zC k p e w' ∧ Gr P w w')
def BPost (w : World) (P T : Nat) (r : R Tr) (e : Ending) (w' : World) : Prop :=
 (∃ t l' v n cs o' c', r = .ok (t, l') ∧ e = .returned v ∧ w'.ownsRow w.heap.size 147 7 v n cs ∧ StAt (Fr w.heap.size) w' t cs ∧ PS w' P T o' c' l' ∧ Gr P w w') ∨ (∃ k p, r = .error (k, p) ∧ zC k p e w' ∧ Gr P w w')
def BlkC (f : Nat) : Prop := ∀ (d : Nat) (w : World) (P T o c : Nat) (l : List Tok), At w P T o c d l → 3 * l.length + 2 ≤ f → Calls Tryz.prog 97 #[.pointer (some ⟨P, 0, none⟩), .int .i64 (d : Int)] w (BPost w P T (stV f 0 d l))
def StmC (f : Nat) : Prop := ∀ (d : Nat) (w : World) (P T o c : Nat) (l : List Tok), At w P T o c d l → 3 * l.length ≤ f → Calls Tryz.prog 149 #[.pointer (some ⟨P, 0, none⟩), .int .i64 (d : Int)] w (SPost w P T (stV f 2 d l))
theorem st_cells {S : Nat → Prop} {w : World} {t : Tr} {cs : Array Value} (h : StAt S w (cc t ce) cs.toList) : ∃ (n0 n1 : Int) (y2 : ByteArray) (p3 p4 : Option Addr) (s5 : Option Addr) (m5 c5 : Nat) (s6 : Option Addr) (m6 c6 : Nat), cs = #[.int .i64 n0, .int .i64 n1, .string y2, .pointer p3, .pointer p4, .slice s5 m5 c5, .slice s6 m6 c6] := by
 unfold StAt at h
 split at h
 ·rename_i heq
  obtain ⟨vi, vv, vt, ve, nt, ne, ts, es, rest, e, a1, a2, a3, a4, a5, a6, a7⟩ := h
  injection heq with h1 h2
  injection h2 with h2 _
  subst h2
  have : rest = [] := by rw [StAt] at a7; exact a7
  subst this
  obtain ⟨q5, c5, rfl⟩ := zd a3.1
  obtain ⟨q6, c6, rfl⟩ := zd a5.1
  have h := congrArg List.toArray e
  rw [Array.toArray_toList] at h
  exact ⟨_, _, _, _, _, _, _, _, _, _, _, h⟩
 ·rename_i heq
  injection heq with h1 h2
  cases h1
 ·exact h.elim
theorem resSt {fn : Func} {p : Tmp} (h : fn.results = #[.cell p 147]) (tmps : Array Value) (w : World) (g : Nat) (a0 a1 a2 a3 a4 a5 a6 : Value) (hp : tmps.getD p undef = .pointer (some ⟨g, 0, none⟩)) (hg : w.heap[g]? = some (.cells #[a0, a1, a2, a3, a4, a5, a6] 147)) :
  (results fn tmps).run Tryz.prog w = .ok (.agg #[a0, a1, a2, a3, a4, a5, a6]) w := by
 rw [zR h, hp]
 have h1 : (loadVar 147 ⟨g, 0, none⟩).run Tryz.prog w = .ok (.agg #[a0, a1, a2, a3, a4, a5, a6]) w := run_loadVar_row w g 147 147 _ (0, 0) _ hg Tryz.underlying147 rfl (by kernel_rfl)
 simp only [asAddr, Sem.run_pure, Result.andThen_ok, h1]
structure StI (w : World) (P q : Nat) (cs : Array Value) (W : World) : Prop where
 res : W.heap[w.heap.size]? = some (.cells #[.int .i64 0, .int .i64 0, .string ⟨#[]⟩, .pointer none, .pointer none, .slice none 0 0, .slice none 0 0] 147)
 blk : W.heap[q]? = some (.cells cs 147)
 gr : Gr P w W
 ltq : w.heap.size < q
 ltP : P < w.heap.size
theorem StI.go {w W W' : World} {P q : Nat} {cs : Array Value} (h : StI w P q cs W) (hg : Gr P W W') : StI w P q cs W' := ⟨hg.blk h.res (by have := h.ltP; omega), hg.blk h.blk (by have := h.ltP; have := h.ltq; omega), h.gr.trans hg, h.ltq, h.ltP⟩
theorem StI.lt {w W : World} {P q : Nat} {cs : Array Value} (h : StI w P q cs W) : q < W.heap.size := (Array.getElem?_eq_some_iff.1 h.blk).1
theorem StI.set {w W : World} {P q : Nat} {cs : Array Value} (h : StI w P q cs W) (i : Nat) (v : Value) : StI w P q (cs.setIfInBounds i v) (W.setCell ⟨q, i, none⟩ v) :=
 ⟨by rw [heap_setCell_other _ _ _ _ (by show w.heap.size ≠ q; have := h.ltq; omega)]; exact h.res, heap_setCell_same _ _ _ _ _ _ h.blk, h.gr.set (by have := h.ltq; omega), h.ltq, h.ltP⟩
abbrev set7 (W : World) (R : Nat) (a0 a1 a2 a3 a4 a5 a6 : Value) : World := ((((((W.setCell ⟨R, 0, none⟩ a0).setCell ⟨R, 1, none⟩ a1).setCell ⟨R, 2, none⟩ a2).setCell ⟨R, 3, none⟩ a3).setCell ⟨R, 4, none⟩ a4).setCell ⟨R, 5, none⟩ a5).setCell ⟨R, 6, none⟩ a6
theorem st_fin {w W : World} {P T q m o c : Nat} {t : Tr} {l : List Tok} {a0 a1 a2 a3 a4 a5 a6 : Value} (h : StI w P q #[a0, a1, a2, a3, a4, a5, a6] W) (hm : w.heap.size < m) (hx : StAt (Fr m) W (cc t ce) [a0, a1, a2, a3, a4, a5, a6]) (hp : PS W P T o c l) (hT : T < w.heap.size) :
  (set7 W w.heap.size a0 a1 a2 a3 a4 a5 a6).heap[w.heap.size]? = some (.cells #[a0, a1, a2, a3, a4, a5, a6] 147) ∧ StAt (Fr w.heap.size) (set7 W w.heap.size a0 a1 a2 a3 a4 a5 a6) (cc t ce) [a0, a1, a2, a3, a4, a5, a6] ∧ PS (set7 W w.heap.size a0 a1 a2 a3 a4 a5 a6) P T o c l ∧ Gr P w (set7 W w.heap.size a0 a1 a2 a3 a4 a5 a6) := by
 refine ⟨?_, ?_, ?_, ?_⟩
 ·exact heap_setCell_same _ _ _ _ _ _ (heap_setCell_same _ _ _ _ _ _ (heap_setCell_same _ _ _ _ _ _ (heap_setCell_same _ _ _ _ _ _ (heap_setCell_same _ _ _ _ _ _ (heap_setCell_same _ _ _ _ _ _ (heap_setCell_same _ _ _ _ _ _ h.res))))))
 ·refine StAt.old (StAt.kept ?_ _ _ hx) (Nat.le_of_lt hm)
  exact ((((((Keeps.set hm).trans (Keeps.set hm)).trans (Keeps.set hm)).trans (Keeps.set hm)).trans (Keeps.set hm)).trans (Keeps.set hm)).trans (Keeps.set hm)
 ·exact ((((((hp.set h.ltP hT).set h.ltP hT).set h.ltP hT).set h.ltP hT).set h.ltP hT).set h.ltP hT).set h.ltP hT
 ·have hl : w.heap.size ≤ w.heap.size := Nat.le_refl _
  exact ((((((h.gr.set hl).set hl).set hl).set hl).set hl).set hl).set hl
theorem StI.cells {w W : World} {P q : Nat} {a0 a1 a2 a3 a4 a5 a6 : Value} (h : StI w P q #[a0, a1, a2, a3, a4, a5, a6] W) :
  W.cell? ⟨q, 0, none⟩ = some a0 ∧ W.cell? ⟨q, 1, none⟩ = some a1 ∧ W.cell? ⟨q, 2, none⟩ = some a2 ∧ W.cell? ⟨q, 3, none⟩ = some a3 ∧ W.cell? ⟨q, 4, none⟩ = some a4 ∧ W.cell? ⟨q, 5, none⟩ = some a5 ∧ W.cell? ⟨q, 6, none⟩ = some a6 :=
 ⟨z_ h.blk rfl, z_ h.blk rfl, z_ h.blk rfl, z_ h.blk rfl, z_ h.blk rfl, z_ h.blk rfl, z_ h.blk rfl⟩
theorem StI.rcells {w W : World} {P q : Nat} {cs : Array Value} (h : StI w P q cs W) :
  W.cell? ⟨w.heap.size, 0, none⟩ = some (.int .i64 0) ∧ W.cell? ⟨w.heap.size, 1, none⟩ = some (.int .i64 0) ∧ W.cell? ⟨w.heap.size, 2, none⟩ = some (.string ⟨#[]⟩) ∧ W.cell? ⟨w.heap.size, 3, none⟩ = some (.pointer none) ∧ W.cell? ⟨w.heap.size, 4, none⟩ = some (.pointer none) ∧ W.cell? ⟨w.heap.size, 5, none⟩ = some (.slice none 0 0) ∧ W.cell? ⟨w.heap.size, 6, none⟩ = some (.slice none 0 0) ∧ (∀ i, W.frozen? ⟨w.heap.size, i, none⟩ = false) :=
 ⟨z_ h.res rfl, z_ h.res rfl, z_ h.res rfl, z_ h.res rfl, z_ h.res rfl, z_ h.res rfl, z_ h.res rfl, fun i => zb h.res i⟩
theorem stmt_named (f : Nat) (d : Nat) (w : World) (P T o c : Nat) (l : List Tok) (h : At w P T o c d l) (hk : (hd l).k = 0) :
  Calls Tryz.prog 149 #[.pointer (some ⟨P, 0, none⟩), .int .i64 (d : Int)] w (SPost w P T (stV (f + 1) 2 d l)) := by
 obtain ⟨y, hy, hyt⟩ := zM (hd l).t
 have HF : Hid (∀ W, Below w.heap.size w W → Calls Tryz.prog 59 #[.pointer (some ⟨P, 0, none⟩)] W fun e w' => e = .returned (.agg #[.int .i64 0, .string y, .int .i64 ((hd l).p : Int)]) ∧ Below w.heap.size w w' ∧ Gr P W w') := fun W hb => by
  have hA := h.below hb
  have := qB W P T o c (hd l) l.tail hA.psc y hy
  rw [hk] at this
  exact this.mono fun e w' ⟨a, b⟩ => ⟨a, hb.trans (b.mono hb.size), ze b⟩
 have HA : Hid (At w P T o c d l) := h
 have HM : Hid (stV (f + 1) 2 d l = bnd (zP (hd l).p l) fun t l1 => bnd (zh [59] l1) fun _ l2 => .ok (t, l2)) := by
  show _ = _
  rw [stV, if_pos hk]
 have HG0 : Hid (∀ e w', SPost w P T (stV (f + 1) 2 d l) e w' → SPost w P T (stV (f + 1) 2 d l) e w') := fun _ _ h => h
 generalize hG : SPost w P T (stV (f + 1) 2 d l) = G at *
 clear HG0
 have HG0 : Hid (∀ e w', SPost w P T (stV (f + 1) 2 d l) e w' → G e w') := fun e w' h => by rw [← hG]; exact h
 have h0 := fld0
 have h2 := fld2
 clear h hk hy hyt hG
 go_enter Tryz.func149, Tryz.ntmps149
 go_wp2_with (go_at_call 59; fail)
 refine (HF.out _ ((Below.refl _ _).alloc (Nat.le_refl _) _)).mono ?_
 rintro e w1 ⟨rfl, hb, hg⟩
 have HR1 : Hid (w1.heap[w.heap.size]? = some (.cells #[.int .i64 0, .int .i64 0, .string ⟨#[]⟩, .pointer none, .pointer none, .slice none 0 0, .slice none 0 0] 147)) := hg.blk (heap_alloc_last w _) (by have := HA.out.ltP; omega)
 have HB1 : Hid (Below w.heap.size w w1) := hb
 have HZ1 : Hid (Gr P (w.alloc (.cells #[.int .i64 0, .int .i64 0, .string ⟨#[]⟩, .pointer none, .pointer none, .slice none 0 0, .slice none 0 0] 147)) w1) := hg
 clear hb hg
 go_wp2_with (go_at_call 59; fail)
 obtain ⟨W1, hW1⟩ : ∃ W1, W1 = w1.alloc (.cells #[.int .i64 0, .int .i64 ((hd l).p : Int), .string ⟨#[]⟩, .pointer none, .pointer none, .slice none 0 0, .slice none 0 0] 147) := ⟨_, rfl⟩
 obtain ⟨q, hq⟩ : ∃ q, q = w1.heap.size := ⟨_, rfl⟩
 have hsz1 : w.heap.size < w1.heap.size := (Array.getElem?_eq_some_iff.1 HR1.out).1
 have HI1 : Hid (StI w P q #[.int .i64 0, .int .i64 ((hd l).p : Int), .string ⟨#[]⟩, .pointer none, .pointer none, .slice none 0 0, .slice none 0 0] W1) := by
  refine ⟨?_, ?_, ?_, by omega, HA.out.ltP⟩
  ·rw [hW1, zc hsz1]; exact HR1.out
  ·rw [hW1, hq]; exact heap_alloc_last w1 _
  ·rw [hW1]; exact (ze HB1.out).alloc _
 have HZ2 : Hid (Gr P (w.alloc (.cells #[.int .i64 0, .int .i64 0, .string ⟨#[]⟩, .pointer none, .pointer none, .slice none 0 0, .slice none 0 0] 147)) W1) := by
  show Gr _ _ _
  rw [hW1]
  exact HZ1.out.alloc _
 have HBW : Hid (Below w.heap.size w W1) := by
  show Below _ _ _
  rw [hW1]
  exact HB1.out.alloc HB1.out.size _
 rw [← hW1, ← hq]
 clear hW1 hq hsz1 HB1 HR1 HZ1
 refine (HF.out _ HBW.out).mono ?_
 rintro e w2 ⟨rfl, hb, hg⟩
 have HI2 : Hid (StI w P q #[.int .i64 0, .int .i64 ((hd l).p : Int), .string ⟨#[]⟩, .pointer none, .pointer none, .slice none 0 0, .slice none 0 0] w2) := HI1.out.go hg
 have HA2 : Hid (At w2 P T o c d l) := HA.out.below hb
 have HZ3 : Hid (Gr P (w.alloc (.cells #[.int .i64 0, .int .i64 0, .string ⟨#[]⟩, .pointer none, .pointer none, .slice none 0 0, .slice none 0 0] 147)) w2) := HZ2.out.trans hg
 clear hb hg HI1 HBW HZ2
 go_wp2_with (go_at_call 205; fail)
 have hEZ : Env (w.alloc (.cells #[.int .i64 0, .int .i64 0, .string ⟨#[]⟩, .pointer none, .pointer none, .slice none 0 0, .slice none 0 0] 147)) := HA.out.env.below ((Below.refl _ _).alloc (Nat.le_refl _) _)
 refine (named_walk (hd l).p d (w.alloc (.cells #[.int .i64 0, .int .i64 0, .string ⟨#[]⟩, .pointer none, .pointer none, .slice none 0 0, .slice none 0 0] 147)) w2 P T q o c l HA2.out hEZ HZ3.out (by have := HI2.out.ltq; simp; omega) (by have := HA.out.ltP; have := HI2.out.ltq; omega) (by have := HA.out.ltT; have := HI2.out.ltq; omega) HI2.out.blk).mono ?_
 rintro e w3 (⟨t, l1, cs, o1, c1, hr, rfl, hblk, hx, hp, hg⟩ | ⟨k, p, hr, ⟨b, rfl, hb⟩, hg⟩)
 rotate_left
 ·refine ⟨rfl, HG0.out _ _ (.inr ⟨k, p, ?_, ⟨b, rfl, hb⟩, (ze ((Below.refl _ _).alloc (Nat.le_refl _) _)).trans hg⟩)⟩
  rw [HM.out, hr]
  rfl
 obtain ⟨n0, n1, y2, p3, p4, s5, m5, c5, s6, m6, c6, rfl⟩ := st_cells hx
 have HI3 : Hid (StI w P q #[.int .i64 n0, .int .i64 n1, .string y2, .pointer p3, .pointer p4, .slice s5 m5 c5, .slice s6 m6 c6] w3) := ⟨hg.blk (heap_alloc_last w _) (by have := HA.out.ltP; omega), hblk, (ze ((Below.refl _ _).alloc (Nat.le_refl _) _)).trans hg, HI2.out.ltq, HA.out.ltP⟩
 have HX3 : Hid (StAt (Fr w2.heap.size) w3 (cc t ce) [.int .i64 n0, .int .i64 n1, .string y2, .pointer p3, .pointer p4, .slice s5 m5 c5, .slice s6 m6 c6]) := hx
 have HS2 : Hid (w.heap.size < w2.heap.size) := by show _ < _; have := HI2.out.ltq; have := HI2.out.lt; omega
 obtain ⟨he1, hl1⟩ := named_tail hr HA.out.ends
 have HA3 : Hid (At w3 P T o1 c1 d l1) := at_of hEZ hg HA.out.far hp he1 (by have := HA.out.deep; omega)
 have HR3 : Hid (zP (hd l).p l = .ok (t, l1)) := hr
 clear hr hblk hx hp hg he1 hl1 hEZ HI2 HA2 HZ3
 go_wp2_with (go_at_call 92; fail)
 refine (nee_at HA3.out ⟨#[59]⟩ (by decide)).mono ?_
 rintro e w4 (⟨hv, rfl, hp, hg, he, hlt⟩ | ⟨hv, ⟨b, rfl, hb⟩, hg⟩)
 rotate_left
 ·refine ⟨rfl, HG0.out _ _ (.inr ⟨_, _, ?_, ⟨b, rfl, hb⟩, HI3.out.gr.trans hg⟩)⟩
  have hv' : zh [59] l1 = _ := hv
  rw [HM.out, HR3.out]
  show bnd (zh [59] l1) _ = _
  rw [hv']
  rfl
 have hI4 := HI3.out.go hg
 have HI4 : Hid (StI w P q #[.int .i64 n0, .int .i64 n1, .string y2, .pointer p3, .pointer p4, .slice s5 m5 c5, .slice s6 m6 c6] w4) := hI4
 have HX4 : Hid (StAt (Fr w2.heap.size) w4 (cc t ce) [.int .i64 n0, .int .i64 n1, .string y2, .pointer p3, .pointer p4, .slice s5 m5 c5, .slice s6 m6 c6]) := StAt.kept (Keeps.gr HA3.out.ps hg) _ _ HX3.out
 have HP4 : Hid (PS w4 P T (o1 + 3) (c1 - 1) l1.tail) := hp
 have HV4 : Hid (zh [59] l1 = .ok ((), l1.tail)) := hv
 obtain ⟨q0, q1, q2, q3, q4, q5, q6⟩ := hI4.cells
 obtain ⟨r0, r1, r2, r3, r4, r5, r6, rf⟩ := hI4.rcells
 have hne : ¬ w.heap.size = q := by have := hI4.ltq; omega
 have hne2 : ¬ q = w.heap.size := by have := hI4.ltq; omega
 clear hI4 hv hp hg he hlt HI3 HX3
 go_wp2
 obtain ⟨g1, g2, g3, g4⟩ := st_fin HI4.out HS2.out HX4.out HP4.out HA.out.ltT
 refine bodyPost_ret (resSt Tryz.results149 _ _ w.heap.size _ _ _ _ _ _ _ rfl g1) rfl (HG0.out _ _ (.inl ⟨t, l1.tail, _, _, _, ?_, rfl, g2, g3, g4⟩))
 rw [HM.out, HR3.out]
 show bnd (zh [59] l1) _ = _
 rw [HV4.out]
 rfl
end Go.Proofs.YtnfhpdbbfejioaaGreatDoor
