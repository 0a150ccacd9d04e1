/- T6 T7 -/
import Derived.Test.YtnfhpdbbfejioaaGreatDoorE01
namespace Go.Proofs.YtnfhpdbbfejioaaGreatDoor
set_option linter.unusedVariables false
set_option linter.unusedSimpArgs false
set_option maxRecDepth 100000
set_option maxHeartbeats 16000000
open Go Go.RowKit
abbrev Gr (P : Nat) (w w' : World) : Prop := w.grownBy w' (some P)
theorem Gr.refl (P : Nat) (w : World) : Gr P w w := ⟨rfl, rfl, rfl, Nat.le_refl _, fun _ _ _ => rfl⟩
theorem Gr.trans {P : Nat} {a b c : World} (h : Gr P a b) (g : Gr P b c) : Gr P a c :=
 ⟨g.os.trans h.os, g.tape.trans h.tape, g.output.trans h.output, Nat.le_trans h.size g.size, fun k hk hne => (g.block k (Nat.lt_of_lt_of_le hk h.size) hne).trans (h.block k hk hne)⟩
theorem ze {P : Nat} {w w' : World} (h : Below w.heap.size w w') : Gr P w w' := ⟨h.os, h.tape, h.output, h.size, fun k hk _ => h.block k hk⟩
theorem Gr.alloc {P : Nat} {w w' : World} (h : Gr P w w') (A : Obj) : Gr P w (w'.alloc A) := h.trans (ze ((Below.refl _ _).alloc (Nat.le_refl _) A))
structure PS (w : World) (P T o c : Nat) (l : List Tok) : Prop where
 own : w.heap[P]? = some (.cells #[.slice (some ⟨T, o, none⟩) l.length c] 78)
 cap : l.length ≤ c
 ne : T ≠ P
 tok : ∀ (j : Nat) (t : Tok), l[j]? = some t → w.cell? ⟨T, o + j * 3, none⟩ = some (.int .i64 (t.k : Int)) ∧ w.cell? ⟨T, o + j * 3 + 1, none⟩ = some (str t.t) ∧ w.cell? ⟨T, o + j * 3 + 2, none⟩ = some (.int .i64 (t.p : Int))
theorem PS.below {w w' : World} {P T o c : Nat} {l : List Tok} (h : PS w P T o c l) (hb : Below w.heap.size w w') : PS w' P T o c l := by
 refine ⟨by rw [hb.block P (Array.getElem?_eq_some_iff.1 h.own).1]; exact h.own, h.cap, h.ne, fun j t ht => ?_⟩
 obtain ⟨a, b, d⟩ := h.tok j t ht
 have lt : T < w.heap.size := World.block_lt_of_cell? w _ a
 exact ⟨(hb.cell (p := ⟨T, o + j * 3, none⟩) lt).trans a, (hb.cell (p := ⟨T, o + j * 3 + 1, none⟩) lt).trans b, (hb.cell (p := ⟨T, o + j * 3 + 2, none⟩) lt).trans d⟩
theorem PS.of {w w' : World} {P T o c : Nat} {l : List Tok} (h : PS w P T o c l) (h1 : w'.heap[P]? = w.heap[P]?) (h2 : w'.heap[T]? = w.heap[T]?) : PS w' P T o c l := by
 refine ⟨by rw [h1]; exact h.own, h.cap, h.ne, fun j t ht => ?_⟩
 obtain ⟨a, b, d⟩ := h.tok j t ht
 exact ⟨(World.cell?_of_block (a := ⟨T, _, none⟩) h2).trans a, (World.cell?_of_block (a := ⟨T, _, none⟩) h2).trans b, (World.cell?_of_block (a := ⟨T, _, none⟩) h2).trans d⟩
theorem PS.ltT {w : World} {P T o c : Nat} {t : Tok} {l : List Tok} (h : PS w P T o c (t :: l)) : T < w.heap.size := World.block_lt_of_cell? w _ (h.tok 0 t rfl).1
theorem zc {w : World} {g : Nat} {A : Obj} (h : g < w.heap.size) : (w.alloc A).heap[g]? = w.heap[g]? := ((Below.refl w.heap.size w).alloc (Nat.le_refl _) A).block g h
theorem PS.next {w : World} {P T o c : Nat} {t : Tok} {l : List Tok} (h : PS w P T o c (t :: l)) : PS (w.setCell ⟨P, 0, none⟩ (.slice (some ⟨T, o + 3, none⟩) l.length (c - 1))) P T (o + 3) (c - 1) l := by
 have hc := h.cap
 rw [List.length_cons] at hc
 refine ⟨heap_setCell_same _ _ _ _ _ _ h.own, by omega, h.ne, fun j t' ht => ?_⟩
 obtain ⟨a, b, d⟩ := h.tok (j + 1) t' (by simpa using ht)
 have k : ∀ x, (w.setCell ⟨P, 0, none⟩ (.slice (some ⟨T, o + 3, none⟩) l.length (c - 1))).cell? ⟨T, x, none⟩ = w.cell? ⟨T, x, none⟩ := fun x => World.cell?_setCell_other _ _ _ _ (by intro e; injection e with e; exact h.ne e.symm)
 rw [k, k, k]
 rw [show o + 3 + j * 3 = o + (j + 1) * 3 by omega]
 exact ⟨a, b, d⟩
theorem first_any (w : World) (P T o c : Nat) (t : Tok) (l : List Tok) (h : PS w P T o c (t :: l)) :
  Calls Tryz.prog 59 #[.pointer (some ⟨P, 0, none⟩)] w fun e w' => e = .returned (.agg #[.int .i64 (t.k : Int), str t.t, .int .i64 (t.p : Int)]) ∧ Below w.heap.size w w' := by
 obtain ⟨y, hy⟩ : ∃ y : ByteArray, y = ⟨t.t.toArray⟩ := ⟨_, rfl⟩
 have hy' : str t.t = .string y := by rw [hy]
 obtain ⟨a, b, d⟩ := h.tok 0 t rfl
 rw [Nat.zero_mul, Nat.add_zero] at a b d
 rw [hy'] at b ⊢
 have own := h.own
 rw [List.length_cons] at own
 have hP := (Array.getElem?_eq_some_iff.1 own).1
 have hT : T < w.heap.size := World.block_lt_of_cell? w _ a
 have p0 : w.cell? ⟨P, 0, none⟩ = some (.slice (some ⟨T, o, none⟩) (l.length + 1) c) := by rw [cell_of_row _ _ _ _ _ _ own]; rfl
 clear own h hy hy'
 generalize l.length = n at *
 go_enter Tryz.func59, Tryz.ntmps59
 go_wp2
 exact bodyPost_ret (resTok Tryz.results59 _ _ w.heap.size _ _ _ rfl (heap_alloc_last w _)) rfl ⟨rfl, (Below.refl _ _).alloc (Nat.le_refl _) _⟩
theorem qB (w : World) (P T o c : Nat) (t : Tok) (l : List Tok) (h : PS w P T o c (t :: l)) (y : ByteArray) (hy : str t.t = .string y) :
  Calls Tryz.prog 59 #[.pointer (some ⟨P, 0, none⟩)] w fun e w' => e = .returned (.agg #[.int .i64 (t.k : Int), .string y, .int .i64 (t.p : Int)]) ∧ Below w.heap.size w w' := by
 rw [← hy]
 exact first_any w P T o c t l h
theorem zM (l : By) : ∃ y : ByteArray, str l = .string y ∧ y.data.toList = l := ⟨⟨l.toArray⟩, rfl, by simp⟩
theorem fld0 (k p : Int) (y : ByteArray) (W : World) : (Instr.field 136 (.agg #[.int .i64 k, .string y, .int .i64 p]) 0).run Tryz.prog W = .ok (.int .i64 k) W := by kernel_rfl
theorem fld1 (k p : Int) (y : ByteArray) (W : World) : (Instr.field 136 (.agg #[.int .i64 k, .string y, .int .i64 p]) 1).run Tryz.prog W = .ok (.string y) W := by kernel_rfl
theorem fld2 (k p : Int) (y : ByteArray) (W : World) : (Instr.field 136 (.agg #[.int .i64 k, .string y, .int .i64 p]) 2).run Tryz.prog W = .ok (.int .i64 p) W := by kernel_rfl
theorem fault_any (w : World) (P T o c : Nat) (t : Tok) (l : List Tok) (h : PS w P T o c (t :: l)) (k : Int) :
  Calls Tryz.prog 60 #[.pointer (some ⟨P, 0, none⟩), .int .i64 k] w fun e w' => (∃ a, e = .returned (.pointer (some ⟨a, 0, none⟩)) ∧ w'.heap[a]? = some (.cells #[.int .i64 k, .int .i64 (t.p : Int)] 139)) ∧ Below w.heap.size w w' := by
 obtain ⟨y, hy, _⟩ := zM t.t
 have HF : Hid (Calls Tryz.prog 59 #[.pointer (some ⟨P, 0, none⟩)] w fun e w' => e = .returned (.agg #[.int .i64 (t.k : Int), .string y, .int .i64 (t.p : Int)]) ∧ Below w.heap.size w w') := qB w P T o c t l h y hy
 clear h hy
 have h2 := fld2
 go_enter Tryz.func60, Tryz.ntmps60
 go_wp2_with (go_at_call 59; refine HF.out.mono ?_; rintro e w1 ⟨rfl, hb⟩; have HB : Hid (Below w.heap.size w w1) := hb; clear hb)
 go_ret
 exact ⟨⟨_, rfl, heap_alloc_last w1 _⟩, HB.out.alloc HB.out.size _⟩
theorem next_any (w : World) (P T o c : Nat) (t : Tok) (l : List Tok) (h : PS w P T o c (t :: l)) (hl : 1 ≤ l.length) :
  Calls Tryz.prog 147 #[.pointer (some ⟨P, 0, none⟩)] w fun e w' => e = .returned (.agg #[.int .i64 (t.k : Int), str t.t, .int .i64 (t.p : Int)]) ∧ PS w' P T (o + 3) (c - 1) l ∧ Gr P w w' := by
 obtain ⟨y, hy, _⟩ := zM t.t
 rw [hy]
 have HF : Hid (Calls Tryz.prog 59 #[.pointer (some ⟨P, 0, none⟩)] (w.alloc (.cells #[.int .i64 0, .string ⟨#[]⟩, .int .i64 0] 136)) fun e w' => e = .returned (.agg #[.int .i64 (t.k : Int), .string y, .int .i64 (t.p : Int)]) ∧ Below (w.alloc (.cells #[.int .i64 0, .string ⟨#[]⟩, .int .i64 0] 136)).heap.size (w.alloc (.cells #[.int .i64 0, .string ⟨#[]⟩, .int .i64 0] 136)) w') :=
  qB _ P T o c t l (h.below ((Below.refl _ _).alloc (Nat.le_refl _) _)) y hy
 have HPS : Hid (PS w P T o c (t :: l)) := h
 obtain ⟨c', rfl⟩ : ∃ c', c = c' + 2 := ⟨c - 2, by have := h.cap; rw [List.length_cons] at this; omega⟩
 have hcap := h.cap
 rw [List.length_cons] at hcap
 have hP : P < w.heap.size := (Array.getElem?_eq_some_iff.1 h.own).1
 clear h hy
 go_enter Tryz.func147, Tryz.ntmps147
 go_wp2_with (go_at_call 59; fail)
 refine HF.out.mono ?_
 rintro e w1 ⟨rfl, hb⟩
 have hz1 := hb.size
 simp at hz1
 have hB1 : Below w.heap.size w w1 := ((Below.refl _ _).alloc (Nat.le_refl _) _).trans (hb.mono (by simp))
 have X1 : w1.heap[w.heap.size]? = some (.cells #[.int .i64 0, .string ⟨#[]⟩, .int .i64 0] 136) := by rw [hb.block _ (by simp)]; exact heap_alloc_last w _
 have hPS1 := HPS.out.below hB1
 have own1 := hPS1.own
 rw [List.length_cons] at own1
 have p0 : w1.cell? ⟨P, 0, none⟩ = some (.slice (some ⟨T, o, none⟩) (l.length + 1) (c' + 2)) := by rw [cell_of_row _ _ _ _ _ _ own1]; rfl
 have pf := zb own1 0
 have hP1 : P < w1.heap.size := by omega
 obtain ⟨_, c0, c1, c2, f0, f1, f2⟩ := tkAt X1
 have HX1 : Hid (w1.heap[w.heap.size]? = some (.cells #[.int .i64 0, .string ⟨#[]⟩, .int .i64 0] 136)) := X1
 have HP1 : Hid (PS w1 P T o (c' + 2) (t :: l)) := hPS1
 have HB1 : Hid (Below w.heap.size w w1) := hB1
 have hnp : ¬ w.heap.size = P := by omega
 have hsc : ∀ v i, (w1.setCell ⟨P, 0, none⟩ v).cell? ⟨w.heap.size, i, none⟩ = w1.cell? ⟨w.heap.size, i, none⟩ := fun v i => World.cell?_setCell_other _ _ _ _ (by intro e; injection e with e; omega)
 have hsf : ∀ v i, (w1.setCell ⟨P, 0, none⟩ v).frozen? ⟨w.heap.size, i, none⟩ = w1.frozen? ⟨w.heap.size, i, none⟩ := fun v i => by
  have : (w1.setCell ⟨P, 0, none⟩ v).heap[w.heap.size]? = w1.heap[w.heap.size]? := heap_setCell_other _ _ _ _ (by show w.heap.size ≠ P; omega)
  simp [World.frozen?, this]
 have hz2 : w.heap.size < w1.heap.size := by omega
 clear hb hB1 X1 hPS1 own1 HF
 generalize hn : l.length = n at *
 have HLn : Hid (l.length = n) := hn
 clear hn
 go_wp2
 have hV : (.slice (some ⟨T, o + 3, none⟩) n (c' + 1) : Value) = .slice (some ⟨T, o + 3, none⟩) l.length (c' + 2 - 1) := by rw [HLn.out]; rfl
 have hS := HP1.out.next
 rw [← hV] at hS
 have hB2 : (w1.setCell ⟨P, 0, none⟩ (.slice (some ⟨T, o + 3, none⟩) n (c' + 1))).heap[w.heap.size]? = some (.cells #[.int .i64 0, .string ⟨#[]⟩, .int .i64 0] 136) := by
  rw [heap_setCell_other _ _ _ _ (by show w.heap.size ≠ P; omega)]
  exact HX1.out
 have hT := HPS.out.ltT
 refine bodyPost_ret (resTok Tryz.results147 _ _ w.heap.size _ _ _ rfl (qJ (tk_set hB2 _ _ _) _)) rfl ⟨rfl, ?_, ?_⟩
 ·refine hS.of ?_ ?_
  ·rw [zc (by simp; omega)]
   rw [heap_setCell_other _ _ _ _ (by show P ≠ w.heap.size; omega), heap_setCell_other _ _ _ _ (by show P ≠ w.heap.size; omega), heap_setCell_other _ _ _ _ (by show P ≠ w.heap.size; omega)]
  ·rw [zc (by simp; omega)]
   rw [heap_setCell_other _ _ _ _ (by show T ≠ w.heap.size; omega), heap_setCell_other _ _ _ _ (by show T ≠ w.heap.size; omega), heap_setCell_other _ _ _ _ (by show T ≠ w.heap.size; omega)]
 ·refine ⟨HB1.out.os, HB1.out.tape, HB1.out.output, by simp; omega, fun k hk hne => ?_⟩
  have hkP : k ≠ P := fun e => hne (by rw [e])
  rw [zc (by simp; omega), heap_setCell_other _ _ _ _ (by show k ≠ w.heap.size; omega), heap_setCell_other _ _ _ _ (by show k ≠ w.heap.size; omega), heap_setCell_other _ _ _ _ (by show k ≠ w.heap.size; omega), heap_setCell_other _ _ _ _ (by show k ≠ P; exact hkP)]
  exact HB1.out.block k hk
theorem accept_yes (w : World) (P T o c : Nat) (t : Tok) (l : List Tok) (h : PS w P T o c (t :: l)) (hl : 1 ≤ l.length) (x : ByteArray) (hx : t.t = x.data.toList) :
  Calls Tryz.prog 94 #[.pointer (some ⟨P, 0, none⟩), .string x] w fun e w' => e = .returned (.bool true) ∧ PS w' P T (o + 3) (c - 1) l ∧ Gr P w w' := by
 have hy : str t.t = .string x := by rw [hx]
 have HF : Hid (Calls Tryz.prog 59 #[.pointer (some ⟨P, 0, none⟩)] w fun e w' => e = .returned (.agg #[.int .i64 (t.k : Int), .string x, .int .i64 (t.p : Int)]) ∧ Below w.heap.size w w') := qB w P T o c t l h x hy
 have HN : Hid (∀ W, Below w.heap.size w W → Calls Tryz.prog 147 #[.pointer (some ⟨P, 0, none⟩)] W fun e w' => e = .returned (.agg #[.int .i64 (t.k : Int), .string x, .int .i64 (t.p : Int)]) ∧ PS w' P T (o + 3) (c - 1) l ∧ Gr P w w') := fun W hb => by
  rw [← hy]
  exact (next_any W P T o c t l (h.below hb) hl).mono fun e w' ⟨a, b, d⟩ => ⟨a, b, (ze hb).trans d⟩
 have h1 := fld1
 clear h hy hx
 go_enter Tryz.func94, Tryz.ntmps94
 go_wp2_with (first
  |(go_at_call 59; refine HF.out.mono ?_; rintro e w1 ⟨rfl, hb⟩; have HB : Hid (Below w.heap.size w w1) := hb; clear hb)
  |(go_at_call 147; refine (HN.out _ HB.out).mono ?_; rintro e w2 ⟨rfl, hp, hg⟩; have HP : Hid (PS w2 P T (o + 3) (c - 1) l) := hp; have HG : Hid (Gr P w w2) := hg; clear hp hg))
 go_ret
 exact ⟨rfl, HP.out, HG.out⟩
theorem accept_no (w : World) (P T o c : Nat) (t : Tok) (l : List Tok) (h : PS w P T o c (t :: l)) (x : ByteArray) (hx : t.t ≠ x.data.toList) :
  Calls Tryz.prog 94 #[.pointer (some ⟨P, 0, none⟩), .string x] w fun e w' => e = .returned (.bool false) ∧ Below w.heap.size w w' := by
 obtain ⟨y, hy, hyt⟩ := zM t.t
 have HF : Hid (Calls Tryz.prog 59 #[.pointer (some ⟨P, 0, none⟩)] w fun e w' => e = .returned (.agg #[.int .i64 (t.k : Int), .string y, .int .i64 (t.p : Int)]) ∧ Below w.heap.size w w') := qB w P T o c t l h y hy
 have hne := bytes_neq (b := y) (s := x) (fun e => hx (by rw [← hyt, e]))
 have h1 := fld1
 clear h hy hx hyt
 go_enter Tryz.func94, Tryz.ntmps94
 go_wp2_with (go_at_call 59; refine HF.out.mono ?_; rintro e w1 ⟨rfl, hb⟩; have HB : Hid (Below w.heap.size w w1) := hb; clear hb)
 go_ret
 exact ⟨rfl, HB.out⟩
theorem need_yes (w : World) (P T o c : Nat) (t : Tok) (l : List Tok) (h : PS w P T o c (t :: l)) (hl : 1 ≤ l.length) (x : ByteArray) (hx : t.t = x.data.toList) :
  Calls Tryz.prog 92 #[.pointer (some ⟨P, 0, none⟩), .string x] w fun e w' => e = .returned (.tuple #[]) ∧ PS w' P T (o + 3) (c - 1) l ∧ Gr P w w' := by
 have HA : Hid (Calls Tryz.prog 94 #[.pointer (some ⟨P, 0, none⟩), .string x] w fun e w' => e = .returned (.bool true) ∧ PS w' P T (o + 3) (c - 1) l ∧ Gr P w w') := accept_yes w P T o c t l h hl x hx
 clear h hx
 go_enter Tryz.func92, Tryz.ntmps92
 go_wp2_with (go_at_call 94; refine HA.out.mono ?_; rintro e w2 ⟨rfl, hp, hg⟩; have HP : Hid (PS w2 P T (o + 3) (c - 1) l) := hp; have HG : Hid (Gr P w w2) := hg; clear hp hg)
 go_end0
 exact ⟨rfl, HP.out, HG.out⟩
theorem need_no (w : World) (P T o c : Nat) (t : Tok) (l : List Tok) (h : PS w P T o c (t :: l)) (x : ByteArray) (hx : t.t ≠ x.data.toList) :
  Calls Tryz.prog 92 #[.pointer (some ⟨P, 0, none⟩), .string x] w fun e w' => zC 3 t.p e w' ∧ Below w.heap.size w w' := by
 have HA : Hid (Calls Tryz.prog 94 #[.pointer (some ⟨P, 0, none⟩), .string x] w fun e w' => e = .returned (.bool false) ∧ Below w.heap.size w w') := accept_no w P T o c t l h x hx
 have HF : Hid (∀ W, Below w.heap.size w W → Calls Tryz.prog 60 #[.pointer (some ⟨P, 0, none⟩), .int .i64 3] W fun e w' => (∃ a, e = .returned (.pointer (some ⟨a, 0, none⟩)) ∧ w'.heap[a]? = some (.cells #[.int .i64 3, .int .i64 (t.p : Int)] 139)) ∧ Below w.heap.size w w') := fun W hb => (fault_any W P T o c t l (h.below hb) 3).mono fun e w' ⟨a, b⟩ => ⟨a, hb.trans (b.mono hb.size)⟩
 clear h hx
 go_enter Tryz.func92, Tryz.ntmps92
 go_wp2_with (first
  |(go_at_call 94; refine HA.out.mono ?_; rintro e w1 ⟨rfl, hb⟩; have HB : Hid (Below w.heap.size w w1) := hb; clear hb)
  |(go_at_call 60; refine (HF.out _ HB.out).mono ?_; rintro e w2 ⟨⟨a, rfl, ha⟩, hb⟩; have HA2 : Hid (w2.heap[a]? = some (.cells #[.int .i64 3, .int .i64 (t.p : Int)] 139)) := ha; have HB2 : Hid (Below w.heap.size w w2) := hb; clear ha hb))
 exact ⟨rfl, ⟨a, rfl, HA2.out⟩, HB2.out⟩
theorem bound_no (w : World) (P T o c : Nat) (t : Tok) (l : List Tok) (h : PS w P T o c (t :: l)) (d : Nat) (hd : 12 < d) (hd2 : d < 1000000) (hk : t.k ≠ 3) :
  Calls Tryz.prog 148 #[.pointer (some ⟨P, 0, none⟩), .int .i64 (d : Int)] w fun e w' => zC 4 t.p e w' ∧ Below w.heap.size w w' := by
 obtain ⟨y, hy, hyt⟩ := zM t.t
 have HF1 : Hid (Calls Tryz.prog 59 #[.pointer (some ⟨P, 0, none⟩)] w fun e w' => e = .returned (.agg #[.int .i64 (t.k : Int), .string y, .int .i64 (t.p : Int)]) ∧ Below w.heap.size w w') := qB w P T o c t l h y hy
 have HF : Hid (∀ W, Below w.heap.size w W → Calls Tryz.prog 60 #[.pointer (some ⟨P, 0, none⟩), .int .i64 4] W fun e w' => (∃ a, e = .returned (.pointer (some ⟨a, 0, none⟩)) ∧ w'.heap[a]? = some (.cells #[.int .i64 4, .int .i64 (t.p : Int)] 139)) ∧ Below w.heap.size w w') := fun W hb => (fault_any W P T o c t l (h.below hb) 4).mono fun e w' ⟨a, b⟩ => ⟨a, hb.trans (b.mono hb.size)⟩
 have hk3 : ((t.k : Int) != 3) = true := by simp; omega
 have hd' : (12 : Int) < d := by omega
 have h0 := fld0
 clear h hy hyt hk hd
 go_enter Tryz.func148, Tryz.ntmps148
 go_wp2_with (first
  |(go_at_call 59; refine HF1.out.mono ?_; rintro e w1 ⟨rfl, hb⟩; have HB : Hid (Below w.heap.size w w1) := hb; clear hb)
  |(go_at_call 60; refine (HF.out _ HB.out).mono ?_; rintro e w2 ⟨⟨a, rfl, ha⟩, hb⟩; have HA2 : Hid (w2.heap[a]? = some (.cells #[.int .i64 4, .int .i64 (t.p : Int)] 139)) := ha; have HB2 : Hid (Below w.heap.size w w2) := hb; clear ha hb))
 exact ⟨rfl, ⟨a, rfl, HA2.out⟩, HB2.out⟩
theorem bound_yes (w : World) (P T o c : Nat) (t : Tok) (l : List Tok) (h : PS w P T o c (t :: l)) (d : Nat) (hd2 : d < 1000000) (hk : d ≤ 12 ∨ t.k = 3) :
  Calls Tryz.prog 148 #[.pointer (some ⟨P, 0, none⟩), .int .i64 (d : Int)] w fun e w' => e = .returned (.tuple #[]) ∧ Below w.heap.size w w' := by
 obtain ⟨y, hy, hyt⟩ := zM t.t
 have HF1 : Hid (Calls Tryz.prog 59 #[.pointer (some ⟨P, 0, none⟩)] w fun e w' => e = .returned (.agg #[.int .i64 (t.k : Int), .string y, .int .i64 (t.p : Int)]) ∧ Below w.heap.size w w') := qB w P T o c t l h y hy
 have h0 := fld0
 clear h hy hyt
 by_cases hd : d ≤ 12
 ·have hd' : ¬ (12 : Int) < d := by omega
  clear hk hd
  go_enter Tryz.func148, Tryz.ntmps148
  go_wp2_with fail
  go_end0
  exact ⟨rfl, Below.refl _ _⟩
 ·have hd' : (12 : Int) < d := by omega
  have hk3 : ((t.k : Int) != 3) = false := by
   rcases hk with hk | hk
   ·omega
   ·rw [hk]; rfl
  clear hk hd
  go_enter Tryz.func148, Tryz.ntmps148
  go_wp2_with (go_at_call 59; refine HF1.out.mono ?_; rintro e w1 ⟨rfl, hb⟩; have HB : Hid (Below w.heap.size w w1) := hb; clear hb)
  go_end0
  exact ⟨rfl, HB.out⟩
theorem name_yes (w : World) (P T o c : Nat) (t : Tok) (l : List Tok) (h : PS w P T o c (t :: l)) (hl : 1 ≤ l.length) (hk : t.k = 0) (hn : t.t.length ≤ 12) :
  Calls Tryz.prog 93 #[.pointer (some ⟨P, 0, none⟩)] w fun e w' => e = .returned (str t.t) ∧ PS w' P T (o + 3) (c - 1) l ∧ Gr P w w' := by
 obtain ⟨y, hy, hyt⟩ := zM t.t
 rw [hy]
 have hys : y.size = t.t.length := by rw [← hyt]; simp
 have HF1 : Hid (Calls Tryz.prog 59 #[.pointer (some ⟨P, 0, none⟩)] w fun e w' => e = .returned (.agg #[.int .i64 0, .string y, .int .i64 (t.p : Int)]) ∧ Below w.heap.size w w') := by
  have := qB w P T o c t l h y hy
  rw [hk] at this
  exact this
 have HN : Hid (∀ W, Below w.heap.size w W → Calls Tryz.prog 147 #[.pointer (some ⟨P, 0, none⟩)] W fun e w' => e = .returned (.agg #[.int .i64 (t.k : Int), .string y, .int .i64 (t.p : Int)]) ∧ PS w' P T (o + 3) (c - 1) l ∧ Gr P w w') := fun W hb => by
  rw [← hy]
  exact (next_any W P T o c t l (h.below hb) hl).mono fun e w' ⟨a, b, d⟩ => ⟨a, b, (ze hb).trans d⟩
 have hy12 : ¬ (12 : Int) < y.size := by omega
 have h1 := fld1
 clear h hy hyt hk hn hys
 go_enter Tryz.func93, Tryz.ntmps93
 go_wp2_with (first
  |(go_at_call 59; refine HF1.out.mono ?_; rintro e w1 ⟨rfl, hb⟩; have HB : Hid (∀ A : Obj, Below w.heap.size w (w1.alloc A)) := (fun A => hb.alloc hb.size A); clear hb)
  |(go_at_call 147; refine (HN.out _ (HB.out _)).mono ?_; rintro e w2 ⟨rfl, hp, hg⟩; have HP : Hid (PS w2 P T (o + 3) (c - 1) l) := hp; have HG : Hid (Gr P w w2) := hg; clear hp hg))
 go_ret
 exact ⟨rfl, HP.out, HG.out⟩
theorem name_no (w : World) (P T o c : Nat) (t : Tok) (l : List Tok) (h : PS w P T o c (t :: l)) (kc : Int) (hk : (t.k ≠ 0 ∧ kc = 3) ∨ (t.k = 0 ∧ 12 < t.t.length ∧ kc = 4)) (hz : t.t.length < 1000000000) :
  Calls Tryz.prog 93 #[.pointer (some ⟨P, 0, none⟩)] w fun e w' => zC kc t.p e w' ∧ Below w.heap.size w w' := by
 obtain ⟨y, hy, hyt⟩ := zM t.t
 have hys : y.size = t.t.length := by rw [← hyt]; simp
 have HF1 : Hid (Calls Tryz.prog 59 #[.pointer (some ⟨P, 0, none⟩)] w fun e w' => e = .returned (.agg #[.int .i64 (t.k : Int), .string y, .int .i64 (t.p : Int)]) ∧ Below w.heap.size w w') := qB w P T o c t l h y hy
 have HF : Hid (∀ W k, Below w.heap.size w W → Calls Tryz.prog 60 #[.pointer (some ⟨P, 0, none⟩), .int .i64 k] W fun e w' => (∃ a, e = .returned (.pointer (some ⟨a, 0, none⟩)) ∧ w'.heap[a]? = some (.cells #[.int .i64 k, .int .i64 (t.p : Int)] 139)) ∧ Below w.heap.size w w') := fun W k hb => (fault_any W P T o c t l (h.below hb) k).mono fun e w' ⟨a, b⟩ => ⟨a, hb.trans (b.mono hb.size)⟩
 have h1 := fld1
 clear h hy hyt
 rcases hk with ⟨hk, rfl⟩ | ⟨hk, hn, rfl⟩
 ·have hk0 : ((t.k : Int) != 0) = true := by simp; omega
  clear hk hz hys
  go_enter Tryz.func93, Tryz.ntmps93
  go_wp2_with (first
   |(go_at_call 59; refine HF1.out.mono ?_; rintro e w1 ⟨rfl, hb⟩; have HB : Hid (∀ A : Obj, Below w.heap.size w (w1.alloc A)) := (fun A => hb.alloc hb.size A); clear hb)
   |(go_at_call 60; refine (HF.out _ _ (HB.out _)).mono ?_; rintro e w2 ⟨⟨a, rfl, ha⟩, hb⟩; have HA2 : Hid (w2.heap[a]? = some (.cells #[.int .i64 3, .int .i64 (t.p : Int)] 139)) := ha; have HB2 : Hid (Below w.heap.size w w2) := hb; clear ha hb))
  exact ⟨rfl, ⟨a, rfl, HA2.out⟩, HB2.out⟩
 ·have hk0 : ((t.k : Int) != 0) = false := by rw [hk]; rfl
  have hy12 : (12 : Int) < y.size := by omega
  clear hk hn hz hys
  go_enter Tryz.func93, Tryz.ntmps93
  go_wp2_with (first
   |(go_at_call 59; refine HF1.out.mono ?_; rintro e w1 ⟨rfl, hb⟩; have HB : Hid (∀ A : Obj, Below w.heap.size w (w1.alloc A)) := (fun A => hb.alloc hb.size A); clear hb)
   |(go_at_call 60; refine (HF.out _ _ (HB.out _)).mono ?_; rintro e w2 ⟨⟨a, rfl, ha⟩, hb⟩; have HA2 : Hid (w2.heap[a]? = some (.cells #[.int .i64 4, .int .i64 (t.p : Int)] 139)) := ha; have HB2 : Hid (Below w.heap.size w w2) := hb; clear ha hb))
  exact ⟨rfl, ⟨a, rfl, HA2.out⟩, HB2.out⟩
abbrev pairC : List Value := pairsL.flatMap fun x => [str x.1, .int .i64 (x.2 : Int)]
theorem ix_pair (j : Nat) (hj : j < 13) (W : World) : (Instr.index 289 (.agg pairC.toArray) (.int .i64 (j : Int))).run Tryz.prog W = .ok (.agg #[str (pairsL.getD j ([], 0)).1, .int .i64 ((pairsL.getD j ([], 0)).2 : Int)]) W := by
 have hc : j = 0 ∨ j = 1 ∨ j = 2 ∨ j = 3 ∨ j = 4 ∨ j = 5 ∨ j = 6 ∨ j = 7 ∨ j = 8 ∨ j = 9 ∨ j = 10 ∨ j = 11 ∨ j = 12 := by omega
 rcases hc with rfl | rfl | rfl | rfl | rfl | rfl | rfl | rfl | rfl | rfl | rfl | rfl | rfl <;> rfl
theorem near_at : ∀ (l : List (By × Nat)) (m : By), (∃ J, J < l.length ∧ (l.getD J ([], 0)).1 = m ∧ (∀ j, j < J → (l.getD j ([], 0)).1 ≠ m) ∧ ((l.find? (·.1 == m)).map (·.2)).getD 0 = (l.getD J ([], 0)).2) ∨ ((∀ j, j < l.length → (l.getD j ([], 0)).1 ≠ m) ∧ ((l.find? (·.1 == m)).map (·.2)).getD 0 = 0)
 | [], m => .inr ⟨fun j hj => by simp at hj, rfl⟩
 | x :: l, m => by
  by_cases hx : x.1 = m
  ·refine .inl ⟨0, by simp, hx, fun j hj => by omega, ?_⟩
   rw [List.find?_cons]
   simp [hx]
  ·have hb : (x.1 == m) = false := by simpa using hx
   rcases near_at l m with ⟨J, h1, h2, h3, h4⟩ | ⟨h1, h2⟩
   ·refine .inl ⟨J + 1, by simp; omega, by simpa using h2, fun j hj => ?_, ?_⟩
    ·cases j with
     | zero => simpa using hx
     | succ j => simpa using h3 j (by omega)
    ·rw [List.find?_cons, hb]
     simpa using h4
   ·refine .inr ⟨fun j hj => ?_, ?_⟩
    ·cases j with
     | zero => simpa using hx
     | succ j => simpa using h1 j (by simpa using hj)
    ·rw [List.find?_cons, hb]
     exact h2
theorem near_any (m : ByteArray) (w : World) (he : Env w) :
  Calls Tryz.prog 152 #[.string m] w fun e w' => e = .returned (.int .i64 (zE m.data.toList : Nat)) ∧ Below w.heap.size w w' := by
 have HP : Hid (w.rangeAt 6 0 pairC) := he.pairs
 have hJ : ∃ J, J ≤ 13 ∧ (∀ j, j < J → (pairsL.getD j ([], 0)).1 ≠ m.data.toList) ∧ (J < 13 → (pairsL.getD J ([], 0)).1 = m.data.toList ∧ zE m.data.toList = (pairsL.getD J ([], 0)).2) ∧ (J = 13 → zE m.data.toList = 0) := by
  rcases near_at pairsL m.data.toList with ⟨J, h1, h2, h3, h4⟩ | ⟨h1, h2⟩
  ·exact ⟨J, Nat.le_of_lt h1, h3, fun _ => ⟨h2, h4⟩, fun e => by have : J < 13 := h1; omega⟩
  ·exact ⟨13, Nat.le_refl _, h1, fun h => by omega, fun _ => h2⟩
 obtain ⟨J, hJ13, hno, hyes, hnone⟩ := hJ
 have HNo : Hid (∀ j, j < J → (pairsL.getD j ([], 0)).1 ≠ m.data.toList) := hno
 have HYes : Hid (J < 13 → (pairsL.getD J ([], 0)).1 = m.data.toList ∧ zE m.data.toList = (pairsL.getD J ([], 0)).2) := hyes
 have HNone : Hid (J = 13 → zE m.data.toList = 0) := hnone
 clear he hno hyes hnone
 go_enter Tryz.func152, Tryz.ntmps152
 go_wp2_with (refine wpList_load_mid rfl 289 _ rfl 6 0 rfl _ _ HP.out Tryz.underlying289 rfl (by kernel_rfl) ?_)
 go_loopw [6] (fun i wr => ∃ j : Nat, j ≤ J ∧ i = .int .i64 j ∧ Hid (Below w.heap.size w wr)) (fun i _ => 13 - (intOf i).toNat)
 case atStart => exact ⟨0, Nat.zero_le _, rfl, Below.refl _ _⟩
 case round =>
  obtain ⟨j, hj, rfl, HB⟩ := hrel
  by_cases hlt2 : j < J
  ·have hj13 : j < 13 := by omega
   have hix := ix_pair j hj13
   obtain ⟨y, hy, hyt⟩ := zM (pairsL.getD j ([], 0)).1
   rw [hy] at hix
   have hne := bytes_neq (b := y) (s := m) (fun e => HNo.out j hlt2 (by rw [← hyt, e]))
   clear hy hyt
   generalize ((pairsL.getD j ([], 0)).2 : Int) = nr at *
   go_wp2
   exact ⟨⟨j + 1, by omega, by go_num, HB.out.alloc HB.out.size _⟩, by simp [intOf]; omega⟩
  ·obtain rfl : j = J := by omega
   by_cases hj13 : j < 13
   ·have hix := ix_pair j hj13
    obtain ⟨h1, h2⟩ := HYes.out hj13
    have hy : str (pairsL.getD j ([], 0)).1 = .string m := by rw [h1]
    have HN : Hid ((zE m.data.toList : Int) = ((pairsL.getD j ([], 0)).2 : Int)) := by show _ = _; rw [h2]
    rw [hy] at hix
    clear hy h1 h2
    generalize ((pairsL.getD j ([], 0)).2 : Int) = nr at *
    go_wp2
    go_ret
    exact ⟨ret_int HN.out.symm, HB.out.alloc HB.out.size _⟩
   ·obtain rfl : j = 13 := by omega
    have HN : Hid (zE m.data.toList = 0) := HNone.out rfl
    go_wp2
    go_ret
    exact ⟨ret_int (by rw [HN.out]; rfl), HB.out⟩
theorem more_comma (w : World) (P T o c : Nat) (t : Tok) (l : List Tok) (h : PS w P T o c (t :: l)) (hl : 1 ≤ l.length) (hx : t.t = [44]) :
  Calls Tryz.prog 95 #[.pointer (some ⟨P, 0, none⟩)] w fun e w' => e = .returned (.bool true) ∧ PS w' P T (o + 3) (c - 1) l ∧ Gr P w w' := by
 have HA : Hid (Calls Tryz.prog 94 #[.pointer (some ⟨P, 0, none⟩), .string ⟨#[44]⟩] w fun e w' => e = .returned (.bool true) ∧ PS w' P T (o + 3) (c - 1) l ∧ Gr P w w') := accept_yes w P T o c t l h hl _ hx
 clear h hx
 go_enter Tryz.func95, Tryz.ntmps95
 go_wp2_with (go_at_call 94; refine HA.out.mono ?_; rintro e w2 ⟨rfl, hp, hg⟩; have HP : Hid (PS w2 P T (o + 3) (c - 1) l) := hp; have HG : Hid (Gr P w w2) := hg; clear hp hg)
 go_ret
 exact ⟨rfl, HP.out, HG.out⟩
theorem more_end (w : World) (P T o c : Nat) (t : Tok) (l : List Tok) (h : PS w P T o c (t :: l)) (hl : 1 ≤ l.length) (hx : t.t = [41]) :
  Calls Tryz.prog 95 #[.pointer (some ⟨P, 0, none⟩)] w fun e w' => e = .returned (.bool false) ∧ PS w' P T (o + 3) (c - 1) l ∧ Gr P w w' := by
 have HA : Hid (Calls Tryz.prog 94 #[.pointer (some ⟨P, 0, none⟩), .string ⟨#[44]⟩] w fun e w' => e = .returned (.bool false) ∧ Below w.heap.size w w') := accept_no w P T o c t l h _ (by rw [hx]; decide)
 have HN : Hid (∀ W, Below w.heap.size w W → Calls Tryz.prog 92 #[.pointer (some ⟨P, 0, none⟩), .string ⟨#[41]⟩] W fun e w' => e = .returned (.tuple #[]) ∧ PS w' P T (o + 3) (c - 1) l ∧ Gr P w w') := fun W hb => (need_yes W P T o c t l (h.below hb) hl _ hx).mono fun e w' ⟨a, b, d⟩ => ⟨a, b, (ze hb).trans d⟩
 clear h hx
 go_enter Tryz.func95, Tryz.ntmps95
 go_wp2_with (first
  |(go_at_call 94; refine HA.out.mono ?_; rintro e w1 ⟨rfl, hb⟩; have HB : Hid (Below w.heap.size w w1) := hb; clear hb)
  |(go_at_call 92; refine (HN.out _ HB.out).mono ?_; rintro e w2 ⟨rfl, hp, hg⟩; have HP : Hid (PS w2 P T (o + 3) (c - 1) l) := hp; have HG : Hid (Gr P w w2) := hg; clear hp hg))
 go_ret
 exact ⟨rfl, HP.out, HG.out⟩
theorem more_no (w : World) (P T o c : Nat) (t : Tok) (l : List Tok) (h : PS w P T o c (t :: l)) (h1 : t.t ≠ [44]) (h2 : t.t ≠ [41]) :
  Calls Tryz.prog 95 #[.pointer (some ⟨P, 0, none⟩)] w fun e w' => zC 3 t.p e w' ∧ Below w.heap.size w w' := by
 have HA : Hid (Calls Tryz.prog 94 #[.pointer (some ⟨P, 0, none⟩), .string ⟨#[44]⟩] w fun e w' => e = .returned (.bool false) ∧ Below w.heap.size w w') := accept_no w P T o c t l h _ h1
 have HN : Hid (∀ W, Below w.heap.size w W → Calls Tryz.prog 92 #[.pointer (some ⟨P, 0, none⟩), .string ⟨#[41]⟩] W fun e w' => zC 3 t.p e w' ∧ Below w.heap.size w w') := fun W hb => (need_no W P T o c t l (h.below hb) _ h2).mono fun e w' ⟨a, b⟩ => ⟨a, hb.trans (b.mono hb.size)⟩
 clear h h1 h2
 go_enter Tryz.func95, Tryz.ntmps95
 go_wp2_with (first
  |(go_at_call 94; refine HA.out.mono ?_; rintro e w1 ⟨rfl, hb⟩; have HB : Hid (Below w.heap.size w w1) := hb; clear hb)
  |(go_at_call 92; refine (HN.out _ HB.out).mono ?_; rintro e w2 ⟨⟨a, rfl, ha⟩, hb⟩; have HT : Hid (w2.heap[a]? = some (.cells #[.int .i64 3, .int .i64 (t.p : Int)] 139)) := ha; have HB2 : Hid (Below w.heap.size w w2) := hb; clear ha hb))
 exact ⟨rfl, ⟨a, rfl, HT.out⟩, HB2.out⟩
theorem number_yes (w : World) (P T o c : Nat) (t : Tok) (l : List Tok) (h : PS w P T o c (t :: l)) (hl : 1 ≤ l.length) (hz : t.t.length < 1000000000) (v : Int) (hv : Lib.parseIntB 64 t.t = .ok v) :
  Calls Tryz.prog 259 #[.pointer (some ⟨P, 0, none⟩)] w fun e w' => e = .returned (.int .i64 v) ∧ PS w' P T (o + 3) (c - 1) l ∧ Gr P w w' := by
 obtain ⟨y, hy, hyt⟩ := zM t.t
 have hys : y.size = t.t.length := by rw [← hyt]; simp
 have HF1 : Hid (Calls Tryz.prog 59 #[.pointer (some ⟨P, 0, none⟩)] w fun e w' => e = .returned (.agg #[.int .i64 (t.k : Int), .string y, .int .i64 (t.p : Int)]) ∧ Below w.heap.size w w') := qB w P T o c t l h y hy
 have HPI : Hid (∀ W, Below w.heap.size w W → Calls Tryz.prog 260 #[.string y, .int .i64 10, .int .i64 64] W fun e w' => e = .returned (.tuple #[.int .i64 v, .nilIface]) ∧ Below w.heap.size w w') := fun W hb =>
  (Tryz.strconv_ParseInt_10_at64_ok y (by omega) v (by rw [hyt]; exact hv) W).mono fun e w' ⟨a, b⟩ => ⟨a, by
   rcases b with b | ⟨t, b⟩
   ·rw [b]; exact hb
   ·rw [b]; exact hb.trans ((Lib.bytesWorld_below _ _ _).mono hb.size)⟩
 have HN : Hid (∀ W, Below w.heap.size w W → Calls Tryz.prog 147 #[.pointer (some ⟨P, 0, none⟩)] W fun e w' => e = .returned (.agg #[.int .i64 (t.k : Int), .string y, .int .i64 (t.p : Int)]) ∧ PS w' P T (o + 3) (c - 1) l ∧ Gr P w w') := fun W hb => by
  rw [← hy]
  exact (next_any W P T o c t l (h.below hb) hl).mono fun e w' ⟨a, b, d⟩ => ⟨a, b, (ze hb).trans d⟩
 have h1 := fld1
 clear h hy hyt hys hv
 go_enter Tryz.func259, Tryz.ntmps259
 go_wp2_with (first
  |(go_at_call 59; refine HF1.out.mono ?_; rintro e w1 ⟨rfl, hb⟩; have HB : Hid (Below w.heap.size w w1) := hb; clear hb)
  |(go_at_call 260; refine (HPI.out _ HB.out).mono ?_; rintro e w2 ⟨rfl, hb⟩; have HB2 : Hid (Below w.heap.size w w2) := hb; clear hb)
  |(go_at_call 147; refine (HN.out _ HB2.out).mono ?_; rintro e w3 ⟨rfl, hp, hg⟩; have HP : Hid (PS w3 P T (o + 3) (c - 1) l) := hp; have HG : Hid (Gr P w w3) := hg; clear hp hg))
 go_ret
 exact ⟨rfl, HP.out, HG.out⟩
theorem number_no (w : World) (he : Env w) (P T o c : Nat) (t : Tok) (l : List Tok) (h : PS w P T o c (t :: l)) (hz : t.t.length < 1000000000) (hv : ∀ v, Lib.parseIntB 64 t.t ≠ .ok v) :
  Calls Tryz.prog 259 #[.pointer (some ⟨P, 0, none⟩)] w fun e w' => zC 4 t.p e w' ∧ Below w.heap.size w w' := by
 obtain ⟨y, hy, hyt⟩ := zM t.t
 have hys : y.size = t.t.length := by rw [← hyt]; simp
 have HF1 : Hid (Calls Tryz.prog 59 #[.pointer (some ⟨P, 0, none⟩)] w fun e w' => e = .returned (.agg #[.int .i64 (t.k : Int), .string y, .int .i64 (t.p : Int)]) ∧ Below w.heap.size w w') := qB w P T o c t l h y hy
 have HPI : Hid (∀ W, Below w.heap.size w W → Calls Tryz.prog 260 #[.string y, .int .i64 10, .int .i64 64] W fun e w' => (∃ (x : Int) (N : Nat), e = .returned (.tuple #[.int .i64 x, .iface 330 (.pointer (some ⟨N, 0, none⟩))])) ∧ Below w.heap.size w w') := fun W hb => by
  have heW := he.below hb
  rcases hp : Lib.parseIntB 64 y.data.toList with v | _ | _
  ·exact absurd (by rw [← hyt]; exact hp) (hv v)
  ·obtain ⟨tp, q, hq⟩ := heW.syn
   exact (Tryz.strconv_ParseInt_10_at64_syntax_var y (by omega) hp tp q W hq).mono fun e w' ⟨N, a, _, _, b⟩ => ⟨⟨_, N, a⟩, hb.trans (b.mono hb.size)⟩
  ·obtain ⟨tp, q, hq⟩ := heW.rng
   exact (Tryz.strconv_ParseInt_10_at64_range_var y (by omega) hp tp q W hq).mono fun e w' ⟨N, a, _, _, b⟩ => ⟨⟨_, N, a⟩, hb.trans (b.mono hb.size)⟩
 have HF : Hid (∀ W, Below w.heap.size w W → Calls Tryz.prog 60 #[.pointer (some ⟨P, 0, none⟩), .int .i64 4] W fun e w' => (∃ a, e = .returned (.pointer (some ⟨a, 0, none⟩)) ∧ w'.heap[a]? = some (.cells #[.int .i64 4, .int .i64 (t.p : Int)] 139)) ∧ Below w.heap.size w w') := fun W hb => (fault_any W P T o c t l (h.below hb) 4).mono fun e w' ⟨a, b⟩ => ⟨a, hb.trans (b.mono hb.size)⟩
 have h1 := fld1
 clear h hy hyt hys hv he
 go_enter Tryz.func259, Tryz.ntmps259
 go_wp2_with (first
  |(go_at_call 59; refine HF1.out.mono ?_; rintro e w1 ⟨rfl, hb⟩; have HB : Hid (Below w.heap.size w w1) := hb; clear hb)
  |(go_at_call 260; refine (HPI.out _ HB.out).mono ?_; rintro e w2 ⟨⟨x, N, rfl⟩, hb⟩; have HB2 : Hid (Below w.heap.size w w2) := hb; clear hb)
  |(go_at_call 60; refine (HF.out _ HB2.out).mono ?_; rintro e w3 ⟨⟨a, rfl, ha⟩, hb⟩; have HT : Hid (w3.heap[a]? = some (.cells #[.int .i64 4, .int .i64 (t.p : Int)] 139)) := ha; have HB3 : Hid (Below w.heap.size w w3) := hb; clear ha hb))
 exact ⟨rfl, ⟨a, rfl, HT.out⟩, HB3.out⟩
end Go.Proofs.YtnfhpdbbfejioaaGreatDoor
