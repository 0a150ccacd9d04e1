/- TE -/
import Derived.Test.YtnfhpdbbfejioaaGreatDoorE05
namespace Go.Proofs.YtnfhpdbbfejioaaGreatDoor
set_option linter.unusedVariables false
set_option linter.unusedSimpArgs false
set_option maxRecDepth 100000
set_option maxHeartbeats 16000000
open Go Go.RowKit
theorem pass_at2 {w : World} {P T o c d : Nat} {l : List Tok} (h : At w P T o c d l) (x : ByteArray) (hx : (hd l).t ≠ x.data.toList) (W : World) (hb : Below w.heap.size w W) :
  Calls Tryz.prog 94 #[.pointer (some ⟨P, 0, none⟩), .string x] W fun e w' => e = .returned (.bool false) ∧ Below w.heap.size w w' ∧ Gr P W w' := by
 have hp' : PS W P T o c (hd l :: l.tail) := by rw [← h.ends.cons]; exact h.ps.below hb
 exact (accept_no W P T o c (hd l) l.tail hp' x hx).mono fun e w' ⟨a, b⟩ => ⟨a, hb.trans (b.mono hb.size), ze b⟩
theorem one_not (n : Nat) (IH : OneC n) (d : Nat) (w : World) (P T o c : Nat) (l : List Tok) (h : At w P T o c d l) (hk : d ≤ 12 ∨ (hd l).k = 3) (hn : 12 * l.length + 2 ≤ n + 1) (x : ByteArray) (hx : (hd l).t = x.data.toList) (hxx : x = ⟨#[33]⟩) :
  Calls Tryz.prog 247 #[.pointer (some ⟨P, 0, none⟩), .int .i64 (d : Int)] w (ExPost w P T (exV (n + 1) 2 0 d .nil 0 l)) := by
 have hy : str (hd l).t = .string x := by rw [hx]
 have HF : Hid (∀ W, Below w.heap.size w W → Calls Tryz.prog 59 #[.pointer (some ⟨P, 0, none⟩)] W fun e w' => e = .returned (.agg #[.int .i64 ((hd l).k : Int), .string x, .int .i64 ((hd l).p : Int)]) ∧ Below w.heap.size w w') := fun W hb => look_at h x hy W hb
 have HB : Hid (Calls Tryz.prog 148 #[.pointer (some ⟨P, 0, none⟩), .int .i64 (d : Int)] w fun e w' => e = .returned (.tuple #[]) ∧ Below w.heap.size w w') := bound_at h hk
 have HT : Hid (∀ W, Below w.heap.size w W → Calls Tryz.prog 94 #[.pointer (some ⟨P, 0, none⟩), .string ⟨#[33]⟩] W fun e w' => e = .returned (.bool true) ∧ PS w' P T (o + 3) (c - 1) l.tail ∧ Gr P w w' ∧ Gr P W w') := fun W hb => take_at2 h ⟨#[33]⟩ (by rw [hx, hxx]) (by decide) W hb
 have HNo : Hid (∀ W, Below w.heap.size w W → Calls Tryz.prog 94 #[.pointer (some ⟨P, 0, none⟩), .string ⟨#[45]⟩] W fun e w' => e = .returned (.bool false) ∧ Below w.heap.size w w' ∧ Gr P W w') := fun W hb => pass_at2 h ⟨#[45]⟩ (by rw [hx, hxx]; decide) W hb
 obtain ⟨e1, e2, e3, e4⟩ := h.ends.tail (by rw [hx, hxx]; decide)
 have hdd := h.deep
 have HO : Hid (∀ W, PS W P T (o + 3) (c - 1) l.tail → Gr P w W → Calls Tryz.prog 247 #[.pointer (some ⟨P, 0, none⟩), .int .i64 (IntKind.i64.wrap ((d : Int) + 1))] W (ExPost W P T (exV n 2 0 (d + 1) .nil 0 l.tail))) := fun W hp hg => by
  have := IH (d + 1) W P T (o + 3) (c - 1) l.tail ⟨h.env.gr hg h.far, hp, e1, h.far, by omega⟩ (by omega)
  rw [show ((d + 1 : Nat) : Int) = IntKind.i64.wrap ((d : Int) + 1) by rw [i64_same (by omega) (by omega)]; omega] at this
  exact this
 have hM : exV (n + 1) 2 0 d .nil 0 l = bnd (exV n 2 0 (d + 1) .nil 0 l.tail) fun y l1 => .ok (nd 4 (hd l).p 0 [] (hd l).t y .nil ce, l1) := by
  rw [exV]
  unfold boundV
  rw [if_neg (by omega)]
  show (if (hd l).t = [45] ∨ (hd l).t = [33] then _ else _) = _
  rw [if_pos (by right; rw [hx, hxx])]
 have hd2 : d ≤ 100000 := by omega
 have HPl : Hid (P < w.heap.size) := (Array.getElem?_eq_some_iff.1 h.ps.own).1
 have HPok : Hid (∀ t l' e w', exV n 2 0 (d + 1) .nil 0 l.tail = .ok (t, l') → (∃ v o' c', e = .returned v ∧ ExAt (Fr w.heap.size) w' (nd 4 (hd l).p 0 [] (hd l).t t .nil ce) v ∧ PS w' P T o' c' l') → Gr P w w' → ExPost w P T (exV (n + 1) 2 0 d .nil 0 l) e w') := fun t l' e w' h1 h2 h3 => by
  rw [hM, h1]
  exact ⟨h2, h3⟩
 have HPer : Hid (∀ k p e w', exV n 2 0 (d + 1) .nil 0 l.tail = .error (k, p) → zC k p e w' → Gr P w w' → ExPost w P T (exV (n + 1) 2 0 d .nil 0 l) e w') := fun k p e w' h1 h2 h3 => by
  rw [hM, h1]
  exact ⟨h2, h3⟩
 have HXT : Hid ((hd l).t = x.data.toList) := hx
 clear h hk hn hx hxx hy e1 e2 e3 e4 hdd hM IH
 go_enter Tryz.func247, Tryz.ntmps247
 go_wp2_with (go_at_call 148; fail)
 refine HB.out.mono ?_
 rintro e w1 ⟨rfl, hb⟩
 have HB1 : Hid (Below w.heap.size w w1) := hb
 clear hb
 go_wp2_with (go_at_call 59; fail)
 refine (HF.out _ HB1.out).mono ?_
 rintro e w2 ⟨rfl, hb⟩
 have HB2 : Hid (Below w.heap.size w w2) := hb
 clear hb
 go_wp2_with (go_at_call 94; fail)
 obtain ⟨W2, hW2⟩ : ∃ W2, W2 = w2.alloc (.cells #[.int .i64 ((hd l).k : Int), .string x, .int .i64 ((hd l).p : Int)] 136) := ⟨_, rfl⟩
 obtain ⟨q, hq⟩ : ∃ q, q = w2.heap.size := ⟨_, rfl⟩
 have HQ2 : Hid (W2.heap[q]? = some (.cells #[.int .i64 ((hd l).k : Int), .string x, .int .i64 ((hd l).p : Int)] 136)) := by rw [hW2, hq]; exact heap_alloc_last _ _
 have HNE : Hid (q ≠ P) := fun e => by have := HB2.out.size; have := HPl.out; omega
 have HB3 : Hid (Below w.heap.size w W2) := by rw [hW2]; exact HB2.out.alloc HB2.out.size _
 rw [← hW2, ← hq]
 clear hW2 hq HB2
 refine (HNo.out _ HB3.out).mono ?_
 rintro e W3 ⟨rfl, hb, hg⟩
 have HQ2b : Hid (W3.heap[q]? = some (.cells #[.int .i64 ((hd l).k : Int), .string x, .int .i64 ((hd l).p : Int)] 136)) := hg.blk HQ2.out HNE.out
 have HB4 : Hid (Below w.heap.size w W3) := hb
 clear hb hg HQ2 HB3
 go_wp2_with (go_at_call 94; fail)
 refine (HT.out _ HB4.out).mono ?_
 rintro e w3 ⟨rfl, hp, hg, hg'⟩
 have HQ3 : Hid (w3.drew.heap[q]? = some (.cells #[.int .i64 ((hd l).k : Int), .string x, .int .i64 ((hd l).p : Int)] 136)) := hg'.blk HQ2b.out HNE.out
 have HP3d : Hid (PS w3.drew P T (o + 3) (c - 1) l.tail) := hp.below (Below.refl _ _).drew
 have HG3d : Hid (Gr P w w3.drew) := hg.trans (ze (Below.refl _ _).drew)
 have hc1 : w3.cell? ⟨q, 1, none⟩ = some (.string x) := by have := hg'.blk HQ2b.out HNE.out; simp [World.cell?, this]
 have hc2 : w3.cell? ⟨q, 2, none⟩ = some (.int .i64 ((hd l).p : Int)) := by have := hg'.blk HQ2b.out HNE.out; simp [World.cell?, this]
 clear hp hg hg'
 go_wp2_with fail
 go_region_with (go_at_call 247; refine (HO.out _ HP3d.out HG3d.out).mono ?_; intro e w4 hpost; rcases hpost.parts with ⟨t, l', v, o', c', hr, rfl, hx4, hp4, hg5⟩ | ⟨k, p, hr, ⟨a, rfl, ha⟩, hg5⟩; rotate_left; exact ⟨rfl, HPer.out k p _ _ hr ⟨a, rfl, ha⟩ (HG3d.out.trans hg5)⟩; obtain ⟨vb, rfl⟩ := IsNd.ptr (zq n 2 0 (d + 1) .nil 0 l.tail t l' (by omega) (by omega) hr) hx4; have HR : Hid (exV n 2 0 (d + 1) .nil 0 l.tail = .ok (t, l')) := hr; have hQ4 : w4.heap[q]? = some (.cells #[.int .i64 ((hd l).k : Int), .string x, .int .i64 ((hd l).p : Int)] 136) := hg5.blk HQ3.out HNE.out; have HX4 : Hid (ExAt (Fr w.heap.size) w4 t (.pointer (some ⟨vb, 0, none⟩))) := hx4.old HG3d.out.size; have HP4 : Hid (PS w4 P T o' c' l') := hp4; have HG4 : Hid (Gr P w w4) := HG3d.out.trans hg5; have hc3 : w4.cell? ⟨q, 1, none⟩ = some (.string x) := (by simp [World.cell?, hQ4]); have hc4 : w4.cell? ⟨q, 2, none⟩ = some (.int .i64 ((hd l).p : Int)) := (by simp [World.cell?, hQ4]); clear hx4 hp4 hg5 hQ4 hpost hr)
 all_goals
  go_wp2
  go_ret
  exact HPok.out t l' _ _ HR.out ⟨_, o', c', rfl, un_new HXT.out HG4.out.size HX4.out, HP4.out.below ((Below.refl _ _).alloc (Nat.le_refl _) _)⟩ (HG4.out.alloc _)
end Go.Proofs.YtnfhpdbbfejioaaGreatDoor
