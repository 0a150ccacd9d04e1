/- UF UG -/
import Derived.Test.YtnfhpdbbfejioaaGreatDoorE11
namespace Go.Proofs.YtnfhpdbbfejioaaGreatDoor
set_option linter.unusedVariables false
set_option linter.unusedSimpArgs false
set_option maxRecDepth 100000
set_option maxHeartbeats 16000000
open Go Go.RowKit
theorem info86 : (Tryz.prog.info? 147).map (fun i => (i.zero, i.size, i.bytes)) = some (some (.agg #[.int .i64 0, .int .i64 0, .string ⟨#[]⟩, .pointer none, .pointer none, .slice none 0 0, .slice none 0 0]), 7, 96) := by kernel_rfl
theorem sts_snoc {S : Nat → Prop} {w : World} {t : Tr} {ds : List Value} (ht : StAt S w (cc t ce) ds) : ∀ (xs : List Tr) (cs : List Value), StAt S w (chain xs) cs → StAt S w (chain (xs ++ [t])) (cs ++ ds)
 | [], cs, h => by
  have h' : StAt S w (.slice [] []) cs := h
  rw [StAt] at h'
  subst h'
  exact ht
 | x :: xs, cs, h => by
  have h' : StAt S w (.slice [x] [chain xs]) cs := h
  unfold StAt at h'
  split at h'
  ·rename_i heq
   obtain ⟨vi, vv, vt, ve, nt, ne, ts, es, rest, e, a1, a2, a3, a4, a5, a6, a7⟩ := h'
   injection heq with h1 h2
   injection h1 with h1 _
   injection h2 with h2 _
   subst h2
   subst h1
   subst e
   show StAt S w (.slice [_] [chain (xs ++ [t])]) _
   rw [StAt]
   exact ⟨vi, vv, vt, ve, nt, ne, ts, es, rest ++ ds, by simp, a1, a2, a3, a4, a5, a6, sts_snoc ht xs rest a7⟩
  ·rename_i heq
   injection heq with h1 h2
   cases h1
  ·exact h'.elim
theorem Keeps.mono {S S' : Nat → Prop} {w w' : World} (h : Keeps S w w') (hs : ∀ b, S' b → S b) : Keeps S' w w' := fun b cs t hb => h b cs t (hs b hb)
theorem grown_app {P T o c : Nat} {w w2 w4 : World} {A : Obj} {v : Value} {l : List Tok} (hg : Gr P w w2) (hgrow : (w2.alloc A).grownBy w4 v.ownBlock) (hblk : ∀ i, v.ownBlock = some i → w.heap.size ≤ i) (hP : P < w.heap.size) (hT : T < w.heap.size) (hp : PS w2 P T o c l) :
  Gr P w w4 ∧ PS w4 P T o c l ∧ Keeps (fun i => some i ≠ v.ownBlock) w2 w4 := by
 have hs := hg.size
 have hs4 := hgrow.size
 simp at hs4
 refine ⟨⟨hgrow.os.trans hg.os, hgrow.tape.trans hg.tape, hgrow.output.trans hg.output, by omega, fun b hb hne => ?_⟩, hp.of ?_ ?_, fun b cs t hb _ h => ?_⟩
 ·rw [hgrow.block b (by simp; omega) (fun e => by have := hblk b e.symm; omega), zc (by omega)]
  exact hg.block b hb hne
 ·rw [hgrow.block P (by simp; omega) (fun e => by have := hblk P e.symm; omega), zc (by omega)]
 ·rw [hgrow.block T (by simp; omega) (fun e => by have := hblk T e.symm; omega), zc (by omega)]
 ·have hlt := (Array.getElem?_eq_some_iff.1 h).1
  rw [hgrow.block b (by simp; omega) hb, zc hlt]
  exact h
structure BlkI (n d : Nat) (w : World) (P T : Nat) (l : List Tok) (M : R Tr) (v : Value) (k : Nat) (wr : World) : Prop where
 at' : ∃ xs ys lc o' c' f, k + lc.length ≤ l.length + 1 ∧ wr.ownsRow w.heap.size 147 7 v k ys ∧ StAt (fun i => w.heap.size ≤ i ∧ some i ≠ v.ownBlock) wr (chain xs) ys ∧ PS wr P T o' c' lc ∧ Ends lc ∧ lc.length < l.length ∧
  M = cat xs (stV f 1 d lc) ∧ 3 * lc.length + 1 ≤ f ∧ f ≤ n
 gr : Gr P w wr
theorem block_walk (n : Nat) (IS : ∀ m, m ≤ n → StmC m) (d : Nat) (w : World) (P T o c : Nat) (l : List Tok) (h : At w P T o c d l) (hn : 3 * l.length + 2 ≤ n + 1) :
  Calls Tryz.prog 97 #[.pointer (some ⟨P, 0, none⟩), .int .i64 (d : Int)] w (BPost w P T (stV (n + 1) 0 d l)) := by
 obtain ⟨i0, hi0, hz0, hs0, hb0⟩ := info_parts info86
 have HA : Hid (At w P T o c d l) := h
 have HN : Hid (3 * l.length + 2 ≤ n + 1) := hn
 have hdd := h.deep
 have HS1 : Hid (∀ m, m ≤ n → ∀ (w : World) (o c : Nat) (l : List Tok), At w P T o c (d + 1) l → 3 * l.length ≤ m → Calls Tryz.prog 149 #[.pointer (some ⟨P, 0, none⟩), .int .i64 ((d : Int) + 1)] w (SPost w P T (stV m 2 (d + 1) l))) := fun m hm w o c l h hl => by
  have := IS m hm (d + 1) w P T o c l h hl
  rw [show ((d + 1 : Nat) : Int) = (d : Int) + 1 by omega] at this
  exact this
 have hd2 : d ≤ 100000 := by omega
 have HG0 : Hid (∀ e w', BPost w P T (stV (n + 1) 0 d l) e w' → BPost w P T (stV (n + 1) 0 d l) e w') := fun _ _ h => h
 generalize hG : BPost w P T (stV (n + 1) 0 d l) = G at *
 clear HG0
 have HG0 : Hid (∀ e w', BPost w P T (stV (n + 1) 0 d l) e w' → G e w') := fun e w' h => by rw [← hG]; exact h
 have HM : Hid (stV (n + 1) 0 d l = bnd (boundV d l) fun _ _ => bnd (zh [123] l) fun _ l1 => stV n 1 d l1) := by show _ = _; rw [stV]
 clear h hn hdd IS hG
 by_cases hbd : d ≤ 12 ∨ (hd l).k = 3
 rotate_left
 ·have hdd := HA.out.deep
  have HB : Hid (Calls Tryz.prog 148 #[.pointer (some ⟨P, 0, none⟩), .int .i64 (d : Int)] w fun e w' => zC 4 (hd l).p e w' ∧ Gr P w w') := (bound_no w P T o c (hd l) l.tail HA.out.psc d (by omega) (by omega) (by omega)).mono fun e w' ⟨a, b⟩ => ⟨a, ze b⟩
  have HBD : Hid (¬ (d ≤ 12 ∨ (hd l).k = 3)) := hbd
  clear hdd hbd
  go_enter Tryz.func97, Tryz.ntmps97
  go_wp2_with (go_at_call 148; fail)
  refine HB.out.mono ?_
  rintro e w1 ⟨⟨a, rfl, ha⟩, hg⟩
  refine ⟨rfl, HG0.out _ _ (.inr ⟨4, (hd l).p, ?_, ⟨a, rfl, ha⟩, hg⟩)⟩
  rw [HM.out]
  unfold boundV
  have hb' := HBD.out
  rw [if_pos (by omega)]
  rfl
 have HB : Hid (Calls Tryz.prog 148 #[.pointer (some ⟨P, 0, none⟩), .int .i64 (d : Int)] w fun e w' => e = .returned (.tuple #[]) ∧ Below w.heap.size w w') := bound_at HA.out hbd
 have HM2 : Hid (stV (n + 1) 0 d l = bnd (zh [123] l) fun _ l1 => stV n 1 d l1) := by
  show _ = _
  rw [HM.out]
  unfold boundV
  rw [if_neg (by omega)]
  rfl
 clear hbd HM
 go_enter Tryz.func97, Tryz.ntmps97
 go_wp2_with (go_at_call 148; fail)
 refine HB.out.mono ?_
 rintro e w1 ⟨rfl, hb⟩
 have HA1 : Hid (At w1 P T o c d l) := HA.out.below hb
 have HG1 : Hid (Gr P w w1) := ze hb
 clear hb
 go_wp2_with (go_at_call 92; fail)
 refine (nee_at HA1.out ⟨#[123]⟩ (by decide)).mono ?_
 rintro e w2 (⟨hv, rfl, hp, hg, he, hlt⟩ | ⟨hv, ⟨b, rfl, hb⟩, hg⟩)
 rotate_left
 ·refine ⟨rfl, HG0.out _ _ (.inr ⟨_, _, ?_, ⟨b, rfl, hb⟩, HG1.out.trans hg⟩)⟩
  have hv' : zh [123] l = _ := hv
  rw [HM2.out, hv']
  rfl
 obtain ⟨M, hM⟩ : ∃ M, M = stV n 1 d l.tail := ⟨_, rfl⟩
 have HMM : Hid (stV (n + 1) 0 d l = M) := by
  show _ = _
  have hv' : zh [123] l = _ := hv
  rw [HM2.out, hv', hM]
  rfl
 have HI1 : Hid (BlkI n d w P T l M (.slice none 0 0) 0 w2) := by
  refine ⟨⟨[], [], l.tail, _, _, n, by omega, World.ownsRow_nil _ _ _ _, by rw [chain, StAt], hp, he, hlt, ?_, by have := HN.out; omega, Nat.le_refl _⟩, HG1.out.trans hg⟩
  rw [hM]
  cases stV n 1 d l.tail <;> rfl
 clear hv hp hg he hlt hM HM2
 go_wp2_with fail
 go_loopw [5] (fun v5 wr => ∃ (q : Option Addr) (k c : Nat), v5 = .slice q k c ∧ Hid (BlkI n d w P T l M (.slice q k c) k wr)) (fun _ wr => plen P wr)
 case atStart => exact ⟨none, 0, 0, rfl, HI1.out⟩
 case round =>
  clear HI1
  obtain ⟨q, k, cq, rfl, HI⟩ := hrel
  obtain ⟨⟨xs, ys, lc, o0, c0, f, hkl, hown, hx, hp, he, hl, hM0, hf1, hf2⟩, hgr⟩ := HI.out
  obtain ⟨f, rfl⟩ : ∃ f', f = f' + 1 := ⟨f - 1, by omega⟩
  have hkk : k ≤ 200000 := by have := HA.out.deep; omega
  have HM0 : Hid (M = cat xs (stV (f + 1) 1 d lc)) := hM0
  have HPL : Hid (plen P wr = lc.length) := hp.plen
  have HA0 : Hid (At wr P T o0 c0 (d + 1) lc) := HA.out.go hgr hp he (by have := HA.out.deep; omega)
  have HF0 : Hid (3 * lc.length + 1 ≤ f + 1 ∧ f + 1 ≤ n ∧ lc.length < l.length ∧ k + lc.length ≤ l.length + 1) := ⟨hf1, hf2, hl, hkl⟩
  have HX0 : Hid (StAt (fun i => w.heap.size ≤ i ∧ some i ≠ (Value.slice q k cq).ownBlock) wr (chain xs) ys) := hx
  have HO0 : Hid (wr.ownsRow w.heap.size 147 7 (.slice q k cq) k ys) := hown
  have HGR : Hid (Gr P w wr) := hgr
  clear hkl hown hx hp he hl hgr HI hM0 hf1 hf2
  go_wp2_with (go_at_call 94; fail)
  refine (qH HA0.out ⟨#[125]⟩ (by decide)).mono ?_
  rintro e w3 (⟨hv, rfl, hp, hg, he, hlt⟩ | ⟨hv, rfl, hb⟩)
  ·have HX3 : Hid (StAt (Fr w.heap.size) w3 (chain xs) ys) := StAt.mono (fun _ h _ => h.1) _ _ (StAt.kept (Keeps.gr HA0.out.ps hg) _ _ HX0.out)
   have HO3 : Hid (w3.ownsRow w.heap.size 147 7 (.slice q k cq) k ys) := (Keeps.gr (S := fun _ => True) HA0.out.ps hg).row (by decide) HO0.out (fun _ _ => trivial)
   have HP3 : Hid (PS w3 P T (o0 + 3) (c0 - 1) lc.tail) := hp
   have HG3 : Hid (Gr P w w3) := HGR.out.trans hg
   have HV3 : Hid ((hd lc).t = [125]) := hv
   clear hv hp hg he hlt
   go_wp2
   refine HG0.out _ _ (.inl ⟨chain xs, lc.tail, _, k, ys, _, _, ?_, rfl, HO3.out, HX3.out, HP3.out, HG3.out⟩)
   rw [HMM.out, HM0.out, stV, if_pos HV3.out, ← foldr_ce]
   rfl
  have hg : Gr P wr w3 := ze hb
  have HX3 : Hid (StAt (fun i => w.heap.size ≤ i ∧ some i ≠ (Value.slice q k cq).ownBlock) w3 (chain xs) ys) := StAt.kept (Keeps.gr HA0.out.ps hg) _ _ HX0.out
  have HO3 : Hid (w3.ownsRow w.heap.size 147 7 (.slice q k cq) k ys) := (Keeps.gr (S := fun _ => True) HA0.out.ps hg).row (by decide) HO0.out (fun _ _ => trivial)
  have HA3 : Hid (At w3 P T o0 c0 (d + 1) lc) := HA0.out.below hb
  have HG3 : Hid (Gr P w w3) := HGR.out.trans hg
  have HV3 : Hid (¬ (hd lc).t = [125]) := hv
  clear hv hb hg HX0 HO0 HGR
  go_wp2_with (go_at_call 149; fail)
  refine (HS1.out f (by have := HF0.out; omega) _ _ _ lc HA3.out (by have := HF0.out; omega)).mono ?_
  rintro e w4 (⟨t, l1, cs, o1, c1, hr, rfl, hx, hp, hg⟩ | ⟨k1, p1, hr, ⟨b, rfl, hb⟩, hg⟩)
  rotate_left
  ·refine ⟨rfl, HG0.out _ _ (.inr ⟨k1, p1, ?_, ⟨b, rfl, hb⟩, HG3.out.trans hg⟩)⟩
   rw [HMM.out, HM0.out, stV, if_neg HV3.out, hr]
   rfl
  obtain ⟨n0, n1, y2, p3, p4, s5, m5, c5, s6, m6, c6, rfl⟩ := st_cells hx
  obtain ⟨he1, hlt1⟩ := qy f 2 (d + 1) lc t l1 HA0.out.ends hr
  have HR : Hid (stV f 2 (d + 1) lc = .ok (t, l1)) := hr
  have HX4 : Hid (StAt (Fr w3.heap.size) w4 (cc t ce) [.int .i64 n0, .int .i64 n1, .string y2, .pointer p3, .pointer p4, .slice s5 m5 c5, .slice s6 m6 c6]) := hx
  have HX5 : Hid (StAt (fun i => w.heap.size ≤ i ∧ some i ≠ (Value.slice q k cq).ownBlock) w4 (chain xs) ys) := StAt.kept (Keeps.gr HA3.out.ps hg) _ _ HX3.out
  have HP4 : Hid (PS w4 P T o1 c1 l1) := hp
  have HG4 : Hid (Gr P w w4) := HG3.out.trans hg
  have HSz : Hid (w3.heap.size ≤ w4.heap.size) := hg.size
  have HE4 : Hid (Ends l1 ∧ l1.length < lc.length) := ⟨he1, hlt1⟩
  have HBlk : Hid (∀ i, (Value.slice q k cq).ownBlock = some i → w.heap.size ≤ i ∧ i < w3.heap.size) := fun i hi => HO3.out.lt i hi
  have HO4 : Hid ((w4.alloc (.cells #[.int .i64 n0, .int .i64 n1, .string y2, .pointer p3, .pointer p4, .slice s5 m5 c5, .slice s6 m6 c6] 147)).ownsRow w.heap.size 147 7 (.slice q k cq) k ys) := ((Keeps.gr (S := fun _ => True) HA3.out.ps hg).row (by decide) HO3.out (fun _ _ => trivial)).alloc _
  have HN3 : Hid (∀ (i : Nat) (x : Value), ([.int .i64 n0, .int .i64 n1, .string y2, .pointer p3, .pointer p4, .slice s5 m5 c5, .slice s6 m6 c6] : List Value)[i]? = some x → (w4.alloc (.cells #[.int .i64 n0, .int .i64 n1, .string y2, .pointer p3, .pointer p4, .slice s5 m5 c5, .slice s6 m6 c6] 147)).cell? ((⟨w4.heap.size, 0, none⟩ : Addr).add i) = some x) := World.news_of_block (cs := #[.int .i64 n0, .int .i64 n1, .string y2, .pointer p3, .pointer p4, .slice s5 m5 c5, .slice s6 m6 c6]) (t := 147) (fr := (0, 0)) (heap_alloc_last w4 _)
  have H13 : Hid (∀ u ∈ ([.int .i64 n0, .int .i64 n1, .string y2, .pointer p3, .pointer p4, .slice s5 m5 c5, .slice s6 m6 c6] : List Value), u.oneCell' = true) := fun u hu => by simp at hu; rcases hu with rfl | rfl | rfl | rfl | rfl | rfl | rfl <;> rfl
  have HZ3 : Hid (w.heap.size ≤ (w4.alloc (.cells #[.int .i64 n0, .int .i64 n1, .string y2, .pointer p3, .pointer p4, .slice s5 m5 c5, .slice s6 m6 c6] 147)).heap.size) := by show _ ≤ _; have := HG4.out.size; simp; omega
  clear hr hx hp hg he1 hlt1
  go_wp2_with (at_builtin; refine wpList_append_lies _ rfl _ _ 84 rfl w.heap.size 147 i0 _ 7 96 Tryz.underlying84 hi0 hz0 hs0 hb0 rfl (by decide) _ k _ rfl HO4.out ⟨w4.heap.size, 0, none⟩ 1 1 [.int .i64 n0, .int .i64 n1, .string y2, .pointer p3, .pointer p4, .slice s5 m5 c5, .slice s6 m6 c6] rfl rfl HN3.out H13.out (by decide) (by unfold maxLen; omega) (by omega) HZ3.out (w4.heap.size + 1) (by simp) ?_)
  intro g5 cap5 w5 hown5 hgrow5 hg5 hlt5
  obtain ⟨hG5, hP5, hK5⟩ := grown_app HG4.out hgrow5 (fun i hi => (HBlk.out i hi).1) HA.out.ltP HA.out.ltT HP4.out
  have HX6 : Hid (StAt (fun i => w.heap.size ≤ i ∧ some i ≠ (Value.slice (some ⟨g5, 0, none⟩) (k + 1) cap5).ownBlock) w5 (chain (xs ++ [t])) (ys ++ [.int .i64 n0, .int .i64 n1, .string y2, .pointer p3, .pointer p4, .slice s5 m5 c5, .slice s6 m6 c6])) := by
   have hA : StAt (fun i => w.heap.size ≤ i ∧ some i ≠ (Value.slice q k cq).ownBlock ∧ i < w4.heap.size) w4 (chain xs) ys := StAt.mono (fun i h hi => ⟨h.1, h.2, hi⟩) _ _ HX5.out
   have hB : StAt (fun i => w.heap.size ≤ i ∧ some i ≠ (Value.slice q k cq).ownBlock ∧ i < w4.heap.size) w4 (cc t ce) [.int .i64 n0, .int .i64 n1, .string y2, .pointer p3, .pointer p4, .slice s5 m5 c5, .slice s6 m6 c6] := StAt.mono (fun i h hi => ⟨by have : w3.heap.size ≤ i := h; have := HG3.out.size; omega, fun e => by have := (HBlk.out i e.symm).2; have : w3.heap.size ≤ i := h; omega, hi⟩) _ _ HX4.out
   have hC := sts_snoc hB xs ys hA
   refine StAt.mono (fun i h _ => ⟨h.1, fun e => ?_⟩) _ _ (StAt.kept (hK5.mono fun b hb => hb.2.1) _ _ hC)
   have e' : i = g5 := by injection e
   rcases hg5 with hh | hh
   ·exact h.2.1 (by rw [hh, e'])
   ·have := h.2.2; omega
  have HI5 : Hid (BlkI n d w P T l M (.slice (some ⟨g5, 0, none⟩) (k + 1) cap5) (k + 1) w5) := by
   refine ⟨⟨xs ++ [t], _, l1, o1, c1, f, ?_, hown5, HX6.out, hP5, HE4.out.1, ?_, ?_, ?_, ?_⟩, hG5⟩
   ·have := HF0.out; have := HE4.out.2; omega
   ·have := HF0.out; have := HE4.out.2; omega
   ·rw [HM0.out, stV, if_neg HV3.out, HR.out]
    show cat xs (bnd (stV f 1 d l1) _) = _
    cases stV f 1 d l1 with
    | error e => rfl
    | ok r => obtain ⟨g, l2⟩ := r; exact (cat_snoc xs t g l2).symm
   ·have := HF0.out; have := HE4.out.2; omega
   ·have := HF0.out; omega
  have HPL5 : Hid (plen P w5 < plen P wr) := by
   show _ < _
   rw [HPL.out, hP5.plen]
   exact HE4.out.2
  clear hown5 hgrow5 hg5 hlt5 hG5 hP5 hK5 HX6 HN3 H13 HZ3 HO4 HX4 HX5
  go_wp2
  exact ⟨⟨_, _, _, rfl, HI5.out⟩, HPL5.out⟩
theorem all_st : ∀ n m, m ≤ n → BlkC m ∧ StmC m
 | 0, m, hm => by
  obtain rfl : m = 0 := by omega
  exact ⟨fun d w P T o c l h h3 => by have := h.pos; omega, fun d w P T o c l h h3 => by have := h.pos; omega⟩
 | n + 1, m, hm => by
  have ih := all_st n
  by_cases hlt : m ≤ n
  ·exact ih m hlt
  obtain rfl : m = n + 1 := by omega
  refine ⟨fun d w P T o c l h h3 => block_walk n (fun m hm => (ih m hm).2) d w P T o c l h h3, fun d w P T o c l h h3 => ?_⟩
  by_cases k0 : (hd l).k = 0
  ·exact stmt_named n d w P T o c l h k0
  ·exact stmt_rest n (ih n (Nat.le_refl _)).1 d w P T o c l h h3 k0
def blockV (d : Nat) (l : List Tok) : R Tr := stV (3 * l.length + 5) 0 d l
theorem block_at {w : World} {P T o c d : Nat} {l : List Tok} (h : At w P T o c d l) : Calls Tryz.prog 97 #[.pointer (some ⟨P, 0, none⟩), .int .i64 (d : Int)] w (BPost w P T (blockV d l)) := (all_st _ _ (Nat.le_refl _)).1 d w P T o c l h (by omega)
abbrev pr (nm : By) (ty : Int) : Tr := .agg [.lit (.string nm), .lit (.int .i64 ty)]
abbrev fnc (nm : By) (a : Int) (ps b : Tr) : Tr := .agg [.lit (.string nm), .lit (.int .i64 a), ps, b]
def parV (l : List Tok) : R Tr := bnd (zQ l) fun nm l1 => bnd (zh [58] l1) fun _ l2 =>
 if (hd l2).t = [97, 114, 114] then .ok (pr nm 2, l2.tail) else bnd (zh [105, 110, 116] l2) fun _ l3 => .ok (pr nm 1, l3)
def qW : Nat → List Tok → R Tr
 | 0, _ => .error (0, 0)
 | f + 1, l => bnd (parV l) fun x l1 => if (hd l1).t = [44] then bnd (qW f l1.tail) fun g l2 => .ok (cc x g, l2) else bnd (zh [41] l1) fun _ l2 => .ok (cc x ce, l2)
def parsV (l : List Tok) : R Tr := if (hd l).t = [41] then .ok (ce, l.tail) else qW (l.length + 2) l
def fnV (l : List Tok) : R Tr := bnd (zh [102, 110] l) fun _ l1 => bnd (zQ l1) fun nm l2 => bnd (zh [40] l2) fun _ l3 => bnd (parsV l3) fun ps l4 => bnd (blockV 0 l4) fun b l5 => .ok (fnc nm (hd l).p ps b, l5)
def qE : Nat → Nat → List Tok → R Tr
 | 0, _, _ => .error (0, 0)
 | f + 1, n, l => if (hd l).k = 3 then .ok (ce, l) else if n = 12 then .error (4, (hd l).p) else bnd (fnV l) fun x l1 => bnd (qE f (n + 1) l1) fun g l2 => .ok (cc x g, l2)
theorem par_tail {l l' : List Tok} {t : Tr} (h : parV l = .ok (t, l')) (he : Ends l) : Ends l' ∧ l'.length < l.length := by
 unfold parV at h
 obtain ⟨nm, l1, h1, h⟩ := za h
 obtain ⟨e1, s1⟩ := qX h1 he
 obtain ⟨_, l2, h2, h⟩ := za h
 obtain ⟨e2, s2⟩ := zm h2 (by decide) e1
 split at h
 ·rename_i h3
  obtain ⟨e3, s3⟩ := zu h3 (by decide) e2
  obtain ⟨_, rfl⟩ := zj h
  exact ⟨e3, by omega⟩
 ·obtain ⟨_, l3, h3, h⟩ := za h
  obtain ⟨e3, s3⟩ := zm h3 (by decide) e2
  obtain ⟨_, rfl⟩ := zj h
  exact ⟨e3, by omega⟩
theorem parl_tail : ∀ (f : Nat) {l l' : List Tok} {t : Tr}, qW f l = .ok (t, l') → Ends l → Ends l' ∧ l'.length < l.length
 | 0, l, l', t, h, he => by simp [qW] at h
 | f + 1, l, l', t, h, he => by
  rw [qW] at h
  obtain ⟨x, l1, h1, h⟩ := za h
  obtain ⟨e1, s1⟩ := par_tail h1 he
  split at h
  ·rename_i h2
   obtain ⟨e2, s2⟩ := zu h2 (by decide) e1
   obtain ⟨g, l3, h3, h⟩ := za h
   obtain ⟨e3, s3⟩ := parl_tail f h3 e2
   obtain ⟨_, rfl⟩ := zj h
   exact ⟨e3, by omega⟩
  ·obtain ⟨_, l3, h3, h⟩ := za h
   obtain ⟨e3, s3⟩ := zm h3 (by decide) e1
   obtain ⟨_, rfl⟩ := zj h
   exact ⟨e3, by omega⟩
theorem pars_tail {l l' : List Tok} {t : Tr} (h : parsV l = .ok (t, l')) (he : Ends l) : Ends l' ∧ l'.length < l.length := by
 unfold parsV at h
 split at h
 ·rename_i h2
  obtain ⟨e2, s2⟩ := zu h2 (by decide) he
  obtain ⟨_, rfl⟩ := zj h
  exact ⟨e2, s2⟩
 ·exact parl_tail _ h he
theorem fn_tail {l l' : List Tok} {t : Tr} (h : fnV l = .ok (t, l')) (he : Ends l) : Ends l' ∧ l'.length < l.length := by
 unfold fnV at h
 obtain ⟨_, l1, h1, h⟩ := za h
 obtain ⟨e1, s1⟩ := zm h1 (by decide) he
 obtain ⟨nm, l2, h2, h⟩ := za h
 obtain ⟨e2, s2⟩ := qX h2 e1
 obtain ⟨_, l3, h3, h⟩ := za h
 obtain ⟨e3, s3⟩ := zm h3 (by decide) e2
 obtain ⟨ps, l4, h4, h⟩ := za h
 obtain ⟨e4, s4⟩ := pars_tail h4 e3
 obtain ⟨b, l5, h5, h⟩ := za h
 obtain ⟨e5, s5⟩ := qy _ 0 0 l4 b l5 e4 h5
 obtain ⟨_, rfl⟩ := zj h
 exact ⟨e5, by omega⟩
theorem res83 {fn : Func} {p : Tmp} (h : fn.results = #[.cell p 144]) (tmps : Array Value) (w : World) (g : Nat) (a0 a1 : Value) (hp : tmps.getD p undef = .pointer (some ⟨g, 0, none⟩)) (hg : w.heap[g]? = some (.cells #[a0, a1] 144)) :
  (results fn tmps).run Tryz.prog w = .ok (.agg #[a0, a1]) w := by
 rw [zR h, hp]
 have h1 : (loadVar 144 ⟨g, 0, none⟩).run Tryz.prog w = .ok (.agg #[a0, a1]) w := run_loadVar_row w g 144 144 _ (0, 0) _ hg Tryz.underlying144 rfl (by kernel_rfl)
 simp only [asAddr, Sem.run_pure, Result.andThen_ok, h1]
def PPost (w : World) (P T : Nat) (r : R Tr) (e : Ending) (w' : World) : Prop :=
 (∃ (nm : By) (ty : Int) (l' : List Tok) (o' c' : Nat) (yp : ByteArray), r = .ok (pr nm ty, l') ∧ str nm = .string yp ∧ e = .returned (.agg #[.string yp, .int .i64 ty]) ∧ PS w' P T o' c' l' ∧ Gr P w w') ∨ (∃ k p, r = .error (k, p) ∧ zC k p e w' ∧ Gr P w w')
theorem param_walk (d : Nat) (w : World) (P T o c : Nat) (l : List Tok) (h : At w P T o c d l) :
  Calls Tryz.prog 96 #[.pointer (some ⟨P, 0, none⟩)] w (PPost w P T (parV l)) := by
 obtain ⟨y, hy, hyt⟩ := zM (hd l).t
 have HA : Hid (At w P T o c d l) := h
 have HY : Hid (str (hd l).t = .string y) := hy
 have HG0 : Hid (∀ e w', PPost w P T (parV l) e w' → PPost w P T (parV l) e w') := fun _ _ h => h
 generalize hG : PPost w P T (parV l) = G at *
 clear HG0
 have HG0 : Hid (∀ e w', PPost w P T (parV l) e w' → G e w') := fun e w' h => by rw [← hG]; exact h
 clear h hy hyt hG
 go_enter Tryz.func96, Tryz.ntmps96
 go_wp2_with (go_at_call 93; fail)
 have hbZ : Below w.heap.size w (w.alloc (.cells #[.string ⟨#[]⟩, .int .i64 0] 144)) := (Below.refl _ _).alloc (Nat.le_refl _) _
 refine (nm_at (HA.out.below hbZ)).mono ?_
 rintro e w2 (⟨hv, rfl, hp, hg, he, hlt⟩ | ⟨k, hv, ⟨b, rfl, hb⟩, hg⟩)
 rotate_left
 ·refine ⟨rfl, HG0.out _ _ (.inr ⟨k, _, ?_, ⟨b, rfl, hb⟩, (ze hbZ).trans hg⟩)⟩
  unfold parV
  rw [hv]
  rfl
 have HN : Hid (zQ l = .ok ((hd l).t, l.tail)) := hv
 have HR2 : Hid (w2.heap[w.heap.size]? = some (.cells #[.string ⟨#[]⟩, .int .i64 0] 144)) := hg.blk (heap_alloc_last w _) (by have := HA.out.ltP; omega)
 have HG2 : Hid (Gr P w w2) := (ze hbZ).trans hg
 have HA2 : Hid (At w2 P T (o + 3) (c - 1) d l.tail) := HA.out.go HG2.out hp he (by have := HA.out.deep; omega)
 rw [HY.out]
 clear hv hp hg he hlt hbZ
 go_wp2_with (go_at_call 92; fail)
 obtain ⟨W2, hW2⟩ : ∃ W2, W2 = w2.alloc (.cells #[.string y, .int .i64 1] 144) := ⟨_, rfl⟩
 obtain ⟨q, hq⟩ : ∃ q, q = w2.heap.size := ⟨_, rfl⟩
 have hlt2 : w.heap.size < w2.heap.size := (Array.getElem?_eq_some_iff.1 HR2.out).1
 have HQ : Hid (w.heap.size < q) := by show _ < _; omega
 have HX3 : Hid (W2.heap[q]? = some (.cells #[.string y, .int .i64 1] 144)) := by show _ = _; rw [hW2, hq]; exact heap_alloc_last w2 _
 have HR3 : Hid (W2.heap[w.heap.size]? = some (.cells #[.string ⟨#[]⟩, .int .i64 0] 144)) := by show _ = _; rw [hW2, zc hlt2]; exact HR2.out
 have HG3 : Hid (Gr P w W2) := by show Gr _ _ _; rw [hW2]; exact HG2.out.alloc _
 have HA3 : Hid (At W2 P T (o + 3) (c - 1) d l.tail) := by show At _ _ _ _ _ _ _; rw [hW2]; exact HA2.out.below ((Below.refl _ _).alloc (Nat.le_refl _) _)
 rw [← hW2, ← hq]
 clear hW2 hq hlt2 HR2 HG2 HA2
 refine (nee_at HA3.out ⟨#[58]⟩ (by decide)).mono ?_
 rintro e w3 (⟨hv, rfl, hp, hg, he, hlt⟩ | ⟨hv, ⟨b, rfl, hb⟩, hg⟩)
 rotate_left
 ·refine ⟨rfl, HG0.out _ _ (.inr ⟨_, _, ?_, ⟨b, rfl, hb⟩, HG3.out.trans hg⟩)⟩
  have hv' : zh [58] l.tail = _ := hv
  unfold parV
  rw [HN.out]
  show bnd (zh [58] l.tail) _ = _
  rw [hv']
  rfl
 have HV3 : Hid (zh [58] l.tail = .ok ((), l.tail.tail)) := hv
 have HX4 : Hid (w3.heap[q]? = some (.cells #[.string y, .int .i64 1] 144)) := hg.blk HX3.out (by have := HQ.out; have := HA.out.ltP; omega)
 have HR4 : Hid (w3.heap[w.heap.size]? = some (.cells #[.string ⟨#[]⟩, .int .i64 0] 144)) := hg.blk HR3.out (by have := HA.out.ltP; omega)
 have HG4 : Hid (Gr P w w3) := HG3.out.trans hg
 have HA4 : Hid (At w3 P T (o + 3 + 3) (c - 1 - 1) d l.tail.tail) := HA.out.go HG4.out hp he (by have := HA3.out.deep; omega)
 clear hv hp hg he hlt HX3 HR3 HG3 HA3
 go_wp2_with (go_at_call 94; fail)
 refine (qH HA4.out ⟨#[97, 114, 114]⟩ (by decide)).mono ?_
 rintro e w4 (⟨hv, rfl, hp, hg, he, hlt⟩ | ⟨hv, rfl, hb⟩)
 ·have hx5 := hg.blk HX4.out (by have := HQ.out; have := HA.out.ltP; omega)
  have hr5 := hg.blk HR4.out (by have := HA.out.ltP; omega)
  have f1 := zb hx5 1
  have c0 := z_ (i := 0) hx5 rfl
  have c1 := z_ (i := 1) hx5 rfl
  have rf := zb hr5
  have r0 := z_ (i := 0) hr5 rfl
  have r1 := z_ (i := 1) hr5 rfl
  have hne : ¬ w.heap.size = q := by have := HQ.out; omega
  have hne2 : ¬ q = w.heap.size := by have := HQ.out; omega
  have HR5 : Hid ((w4.setCell ⟨q, 1, none⟩ (.int .i64 2)).heap[w.heap.size]? = some (.cells #[.string ⟨#[]⟩, .int .i64 0] 144)) := by
   show _ = _
   rw [heap_setCell_other _ _ _ _ (by show w.heap.size ≠ q; omega)]
   exact hr5
  have HP5 : Hid (PS (w4.setCell ⟨q, 1, none⟩ (.int .i64 2)) P T (o + 3 + 3 + 3) (c - 1 - 1 - 1) l.tail.tail.tail) := hp.set (by have := HQ.out; have := HA.out.ltP; omega) (by have := HQ.out; have := HA.out.ltT; omega)
  have HG5 : Hid (Gr P w (w4.setCell ⟨q, 1, none⟩ (.int .i64 2))) := (HG4.out.trans hg).set (by have := HQ.out; omega)
  have HV5 : Hid ((hd l.tail.tail).t = [97, 114, 114]) := hv
  clear hx5 hr5 hv hp hg he hlt HX4 HR4
  go_wp2
  try simp only [Exit.inBlock, Exit.then]
  refine bodyPost_ret (res83 Tryz.results96 _ _ w.heap.size (.string y) (.int .i64 2) rfl (heap_setCell_same _ _ _ _ _ _ (heap_setCell_same _ _ _ _ _ _ HR5.out))) rfl (HG0.out _ _ (.inl ⟨(hd l).t, 2, l.tail.tail.tail, _, _, y, ?_, HY.out, rfl, (HP5.out.set HA.out.ltP HA.out.ltT).set HA.out.ltP HA.out.ltT, (HG5.out.set (Nat.le_refl _)).set (Nat.le_refl _)⟩))
  unfold parV
  rw [HN.out]
  show bnd (zh [58] l.tail) _ = _
  rw [HV3.out]
  show (if (hd l.tail.tail).t = [97, 114, 114] then _ else _) = _
  rw [if_pos HV5.out]
 ·have hg : Gr P w3 w4 := ze hb
  have HX5 : Hid (w4.heap[q]? = some (.cells #[.string y, .int .i64 1] 144)) := hg.blk HX4.out (by have := HQ.out; have := HA.out.ltP; omega)
  have HR5 : Hid (w4.heap[w.heap.size]? = some (.cells #[.string ⟨#[]⟩, .int .i64 0] 144)) := hg.blk HR4.out (by have := HA.out.ltP; omega)
  have HG5 : Hid (Gr P w w4) := HG4.out.trans hg
  have HA5 : Hid (At w4 P T (o + 3 + 3) (c - 1 - 1) d l.tail.tail) := HA4.out.below hb
  have HV5 : Hid (¬ (hd l.tail.tail).t = [97, 114, 114]) := hv
  clear hv hb hg HX4 HR4 HG4 HA4
  go_wp2_with (go_at_call 92; fail)
  refine (nee_at HA5.out ⟨#[105, 110, 116]⟩ (by decide)).mono ?_
  rintro e w5 (⟨hv, rfl, hp, hg, he, hlt⟩ | ⟨hv, ⟨b, rfl, hb⟩, hg⟩)
  rotate_left
  ·refine ⟨rfl, HG0.out _ _ (.inr ⟨_, _, ?_, ⟨b, rfl, hb⟩, HG5.out.trans hg⟩)⟩
   have hv' : zh [105, 110, 116] l.tail.tail = _ := hv
   unfold parV
   rw [HN.out]
   show bnd (zh [58] l.tail) _ = _
   rw [HV3.out]
   show (if (hd l.tail.tail).t = [97, 114, 114] then _ else bnd (zh [105, 110, 116] l.tail.tail) _) = _
   rw [if_neg HV5.out, hv']
   rfl
  have hx6 := hg.blk HX5.out (by have := HQ.out; have := HA.out.ltP; omega)
  have hr6 := hg.blk HR5.out (by have := HA.out.ltP; omega)
  have c0 := z_ (i := 0) hx6 rfl
  have c1 := z_ (i := 1) hx6 rfl
  have rf := zb hr6
  have r0 := z_ (i := 0) hr6 rfl
  have r1 := z_ (i := 1) hr6 rfl
  have hne : ¬ w.heap.size = q := by have := HQ.out; omega
  have hne2 : ¬ q = w.heap.size := by have := HQ.out; omega
  have HR6 : Hid (w5.heap[w.heap.size]? = some (.cells #[.string ⟨#[]⟩, .int .i64 0] 144)) := hr6
  have HP6 : Hid (PS w5 P T (o + 3 + 3 + 3) (c - 1 - 1 - 1) l.tail.tail.tail) := hp
  have HG6 : Hid (Gr P w w5) := HG5.out.trans hg
  have HV6 : Hid (zh [105, 110, 116] l.tail.tail = .ok ((), l.tail.tail.tail)) := hv
  clear hx6 hr6 hv hp hg he hlt HX5 HR5
  go_wp2
  try simp only [Exit.inBlock, Exit.then]
  refine bodyPost_ret (res83 Tryz.results96 _ _ w.heap.size (.string y) (.int .i64 1) rfl (heap_setCell_same _ _ _ _ _ _ (heap_setCell_same _ _ _ _ _ _ HR6.out))) rfl (HG0.out _ _ (.inl ⟨(hd l).t, 1, l.tail.tail.tail, _, _, y, ?_, HY.out, rfl, (HP6.out.set HA.out.ltP HA.out.ltT).set HA.out.ltP HA.out.ltT, (HG6.out.set (Nat.le_refl _)).set (Nat.le_refl _)⟩))
  unfold parV
  rw [HN.out]
  show bnd (zh [58] l.tail) _ = _
  rw [HV3.out]
  show (if (hd l.tail.tail).t = [97, 114, 114] then _ else bnd (zh [105, 110, 116] l.tail.tail) _) = _
  rw [if_neg HV5.out, HV6.out]
  rfl
end Go.Proofs.YtnfhpdbbfejioaaGreatDoor
