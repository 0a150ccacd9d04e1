/- TK TL UA UB -/
import Derived.Test.YtnfhpdbbfejioaaGreatDoorQ04
namespace Go.Proofs.YtnfhpdbbfejioaaGreatDoor
set_option linter.unusedVariables false
set_option linter.unusedSimpArgs false
set_option maxRecDepth 100000
set_option maxHeartbeats 4000000
open Go Go.RowKit
theorem info84 : (Tryz.prog.info? 145).map (fun i => (i.zero, i.size, i.bytes)) = some (some (.pointer none), 1, 8) := by kernel_rfl
def cat (xs : List Tr) (r : R Tr) : R Tr :=
 match r with
 | .ok (g, l) => .ok (xs.foldr cc g, l)
 | .error e => .error e
theorem cat_snoc (xs : List Tr) (t g : Tr) (l : List Tok) : cat (xs ++ [t]) (.ok (g, l)) = cat xs (.ok (cc t g, l)) := by simp [cat]
theorem foldr_ce (xs : List Tr) : xs.foldr cc ce = chain xs := by
 induction xs with
 | nil => rfl
 | cons x xs ih => rw [List.foldr_cons, ih]; rfl
theorem chain_snoc {S : Nat → Prop} {w : World} {t : Tr} {v : Value} (ht : ExAt S w t v) : ∀ (xs : List Tr) (ys : List Value), ExAt S w (chain xs) (.tuple ys.toArray) → ExAt S w (chain (xs ++ [t])) (.tuple (ys ++ [v]).toArray)
 | [], ys, h => by
  have h' : Value.tuple ys.toArray = .tuple #[] := by
   have : ExAt S w (.slice [] []) (.tuple ys.toArray) := h
   rw [ExAt] at this
   exact this
  injection h' with h'
  have : ys = [] := by simpa using h'
  subst this
  show ExAt S w (.slice [t] [.slice [] []]) _
  rw [ExAt]
  exact ⟨v, [], rfl, ht, by rw [ExAt]⟩
 | x :: xs, ys, h => by
  have h' : ExAt S w (.slice [x] [chain xs]) (.tuple ys.toArray) := h
  rw [ExAt] at h'
  obtain ⟨y, zs, e, hx, hz⟩ := h'
  injection e with e
  have : ys = y :: zs := by simpa using congrArg Array.toList e
  subst this
  show ExAt S w (.slice [x] [chain (xs ++ [t])]) _
  rw [ExAt]
  exact ⟨y, zs ++ [v], rfl, hx, chain_snoc ht xs zs hz⟩
theorem own_gr {P T o c B n : Nat} {w w' : World} {l : List Tok} {v : Value} {ys : List Value} (hp : PS w P T o c l) (hg : Gr P w w') (h : w.ownsRow B 145 1 v n ys) : w'.ownsRow B 145 1 v n ys := by
 refine ⟨h.1, ?_⟩
 rcases h.2 with hh | ⟨g', cap, cur, hv, hb, hq, rest⟩
 ·exact .inl hh
 ·exact .inr ⟨g', cap, cur, hv, hb, gr_keeps hp.own hg _ _ _ (.inr rfl) hq, rest⟩
theorem more_at {w : World} {P T o c d : Nat} {l : List Tok} (h : At w P T o c d l) :
  Calls Tryz.prog 95 #[.pointer (some ⟨P, 0, none⟩)] w fun e w' => (∃ b : Bool, (hd l).t = (if b then [44] else [41]) ∧ e = .returned (.bool b) ∧ PS w' P T (o + 3) (c - 1) l.tail ∧ Gr P w w' ∧ Ends l.tail ∧ l.tail.length < l.length) ∨ ((hd l).t ≠ [44] ∧ (hd l).t ≠ [41] ∧ zH 3 (hd l).p e w' ∧ Gr P w w') := by
 by_cases h1 : (hd l).t = [44]
 ·obtain ⟨e1, e2, e3, e4⟩ := h.ends.tail (by rw [h1]; simp)
  exact (more_comma w P T o c (hd l) l.tail h.psc e2 h1).mono fun e w' ⟨a, b, g⟩ => .inl ⟨true, h1, a, b, g, e1, e4⟩
 ·by_cases h2 : (hd l).t = [41]
  ·obtain ⟨e1, e2, e3, e4⟩ := h.ends.tail (by rw [h2]; simp)
   exact (more_end w P T o c (hd l) l.tail h.psc e2 h2).mono fun e w' ⟨a, b, g⟩ => .inl ⟨false, h2, a, b, g, e1, e4⟩
  ·exact (more_no w P T o c (hd l) l.tail h.psc h1 h2).mono fun e w' ⟨a, b⟩ => .inr ⟨h1, h2, a, zd b⟩
structure ArgI (n d : Nat) (w : World) (P T : Nat) (l : List Tok) (M : R Tr) (b : Bool) (v : Value) (k : Nat) (wr : World) : Prop where
 at' : ∃ xs ys lc o' c', ys.length = k ∧ k + lc.length ≤ l.length + 1 ∧ wr.ownsRow w.heap.size 145 1 v k ys ∧ ExAt (fun i => w.heap.size ≤ i ∧ some i ≠ v.ownBlock) wr (chain xs) (.tuple ys.toArray) ∧ PS wr P T o' c' lc ∧ Ends lc ∧ lc.length ≤ l.length ∧
  (b = false → M = .ok (chain xs, lc)) ∧ (b = true → ∃ f, M = cat xs (exV f 7 0 d ce 0 lc) ∧ 12 * lc.length + 10 ≤ f ∧ f ≤ n)
 gr : Gr P w wr
def ExprC (n : Nat) : Prop := ∀ m, m ≤ n → ∀ (d : Nat) (w : World) (P T o c : Nat) (l : List Tok), At w P T o c d l → 12 * l.length + 9 ≤ m → Calls Tryz.prog 206 #[.pointer (some ⟨P, 0, none⟩), .int .i64 (d : Int)] w (ExPost w P T (exV m 0 1 d .nil 0 l))
theorem args_walk (n : Nat) (IE : ExprC n) (d : Nat) (w : World) (P T o c : Nat) (l : List Tok) (h : At w P T o c (d + 1) l) (hn : 12 * l.length + 10 ≤ n) :
  Calls Tryz.prog 233 #[.pointer (some ⟨P, 0, none⟩), .int .i64 (d : Int)] w (ArPost w P T (argV n d l)) := by
 obtain ⟨i0, hi0, hz0, hs0, hb0⟩ := qt info84
 have HA : Hid (At w P T o c (d + 1) l) := h
 have HN : Hid (12 * l.length + 10 ≤ n) := hn
 have hdd := h.deep
 have HE1 : Hid (∀ m, m ≤ n → ∀ (w : World) (o c : Nat) (l : List Tok), At w P T o c (d + 1) l → 12 * l.length + 9 ≤ m → Calls Tryz.prog 206 #[.pointer (some ⟨P, 0, none⟩), .int .i64 ((d : Int) + 1)] w (ExPost w P T (exV m 0 1 (d + 1) .nil 0 l))) := fun m hm w o c l h hl => by
  have := IE m hm (d + 1) w P T o c l h hl
  rw [show ((d + 1 : Nat) : Int) = (d : Int) + 1 by omega] at this
  exact this
 have hd2 : d ≤ 100000 := by omega
 obtain ⟨M, hM⟩ : ∃ M, M = argV n d l := ⟨_, rfl⟩
 have HM : Hid (M = argV n d l) := hM
 have HG0 : Hid (∀ e w', ArPost w P T M e w' → ArPost w P T (argV n d l) e w') := fun e w' h => by rw [← hM]; exact h
 generalize hG : ArPost w P T (argV n d l) = G at *
 clear h hn hdd IE hM hG
 go_enter Tryz.func233, Tryz.ntmps233
 go_wp2_with (go_at_call 94; fail)
 refine (qW HA.out ⟨#[41]⟩ (by decide)).mono ?_
 have HI0 : Hid (∀ e w1, (((hd l).t = [41] ∧ e = Ending.returned (.bool true) ∧ PS w1 P T (o + 3) (c - 1) l.tail ∧ Gr P w w1 ∧ Ends l.tail ∧ l.tail.length < l.length) ∨ ((hd l).t ≠ [41] ∧ e = Ending.returned (.bool false) ∧ Below w.heap.size w w1)) → ∃ b : Bool, e = .returned (.bool (!b)) ∧ ArgI n d w P T l M b (.slice none 0 0) 0 w1) := by
  rintro e w1 (⟨hv, rfl, hp, hg, he, hlt⟩ | ⟨hv, rfl, hb⟩)
  ·refine ⟨false, rfl, ⟨[], [], l.tail, _, _, rfl, by omega, World.ownsRow_nil _ _ _ _, by rw [chain, ExAt], hp, he, by omega, fun _ => ?_, fun h => by cases h⟩, hg⟩
   rw [HM.out]
   unfold argV
   rw [if_pos hv]
   rfl
  ·refine ⟨true, rfl, ⟨[], [], l, _, _, rfl, by omega, World.ownsRow_nil _ _ _ _, by rw [chain, ExAt], HA.out.ps.below hb, HA.out.ends, Nat.le_refl _, (fun h => by cases h), fun _ => ⟨n, ?_, HN.out, Nat.le_refl _⟩⟩, zd hb⟩
   rw [HM.out]
   unfold argV
   rw [if_neg hv]
   cases exV n 7 0 d ce 0 l <;> rfl
 intro e w1 hpost
 obtain ⟨b, rfl, hI⟩ := HI0.out e w1 hpost
 have HI1 : Hid (ArgI n d w P T l M b (.slice none 0 0) 0 w1) := hI
 clear hpost hI HI0
 go_wp2_with fail
 go_loopw [5, 6] (fun v5 v6 wr => ∃ (b : Bool) (q : Option Addr) (k c : Nat), v6 = .bool b ∧ v5 = .slice q k c ∧ Hid (ArgI n d w P T l M b (.slice q k c) k wr)) (fun _ _ wr => plen P wr)
 case atStart => exact ⟨b, none, 0, 0, by cases b <;> rfl, rfl, HI1.out⟩
 case round =>
  clear HI1
  obtain ⟨b, q, k, cq, rfl, rfl, HI⟩ := hrel
  obtain ⟨⟨xs, ys, lc, o0, c0, hk, hkl, hown, hx, hp, he, hl, hbf, hbt⟩, hgr⟩ := HI.out
  have hkk : k ≤ 200000 := by have := HA.out.deep; omega
  cases b with
  | false =>
   have HX : Hid (ExAt (Fr w.heap.size) wr (chain xs) (.tuple ys.toArray)) := ExAt.mono (fun _ h _ => h.1) _ _ hx
   have HO : Hid (wr.ownsRow w.heap.size 145 1 (.slice q k cq) ys.length ys) := by rw [hk]; exact hown
   have HP : Hid (PS wr P T o0 c0 lc) := hp
   have HGR : Hid (Gr P w wr) := hgr
   have HMM : Hid (M = .ok (chain xs, lc)) := hbf rfl
   clear hk hkl hown hx hp he hl hbf hbt hgr HI
   go_wp2
   refine HG0.out _ _ ?_
   rw [HMM.out]
   exact ⟨⟨_, ys, o0, c0, rfl, HO.out, HX.out, HP.out⟩, HGR.out⟩
  | true =>
   obtain ⟨f, hM0, hf1, hf2⟩ := hbt rfl
   obtain ⟨f, rfl⟩ : ∃ f', f = f' + 1 := ⟨f - 1, by omega⟩
   have HM0 : Hid (M = cat xs (exV (f + 1) 7 0 d ce 0 lc)) := hM0
   have HPL : Hid (plen P wr = lc.length) := hp.plen
   have HA0 : Hid (At wr P T o0 c0 (d + 1) lc) := HA.out.go hgr hp he (by have := HA.out.deep; omega)
   have HF0 : Hid (12 * lc.length + 10 ≤ f + 1 ∧ f + 1 ≤ n ∧ lc.length ≤ l.length ∧ k + lc.length ≤ l.length + 1) := ⟨hf1, hf2, hl, hkl⟩
   have HX0 : Hid (ExAt (fun i => w.heap.size ≤ i ∧ some i ≠ (Value.slice q k cq).ownBlock) wr (chain xs) (.tuple ys.toArray)) := hx
   have HO0 : Hid (wr.ownsRow w.heap.size 145 1 (.slice q k cq) k ys) := hown
   have HK : Hid (ys.length = k) := hk
   have HGR : Hid (Gr P w wr) := hgr
   clear hk hkl hown hx hp he hl hbf hbt hgr HI hM0 hf1 hf2
   go_wp2_with (go_at_call 206; fail)
   refine (HE1.out f (by have := HF0.out; omega) _ _ _ lc HA0.out (by have := HF0.out; omega)).mono ?_
   intro e w2 hpost
   rcases hpost.parts with ⟨t1, l1, v1, o1, c1, hr, rfl, hx2, hp2, hg2⟩ | ⟨k1, p1, hr, ⟨a, rfl, ha⟩, hg2⟩
   rotate_left
   ·refine ⟨rfl, HG0.out _ _ ?_⟩
    rw [HM0.out, exV, hr]
    exact ⟨⟨a, rfl, ha⟩, HGR.out.trans hg2⟩
   obtain ⟨vb, rfl⟩ := IsNd.ptr (zw f 0 1 (d + 1) .nil 0 lc t1 l1 (by omega) (by omega) hr) hx2
   obtain ⟨he1, hl1, hl1'⟩ := zq f 0 1 (d + 1) .nil 0 lc t1 l1 (fun h => by omega) HA0.out.ends hr
   have hlt1 := hl1' (by decide) (by decide)
   have HR : Hid (exV f 0 1 (d + 1) .nil 0 lc = .ok (t1, l1)) := hr
   have HX2 : Hid (ExAt (Fr wr.heap.size) w2 t1 (.pointer (some ⟨vb, 0, none⟩))) := hx2
   have HX3 : Hid (ExAt (fun i => w.heap.size ≤ i ∧ some i ≠ (Value.slice q k cq).ownBlock) w2 (chain xs) (.tuple ys.toArray)) := jf HA0.out.ps hg2 HX0.out
   have HP2 : Hid (PS w2 P T o1 c1 l1) := hp2
   have HG2 : Hid (Gr P w w2) := HGR.out.trans hg2
   have HO2 : Hid (w2.ownsRow w.heap.size 145 1 (.slice q k cq) k ys) := own_gr HA0.out.ps hg2 HO0.out
   have HE2 : Hid (Ends l1 ∧ l1.length < lc.length) := ⟨he1, hlt1⟩
   have HSz : Hid (wr.heap.size ≤ w2.heap.size) := hg2.size
   have HBlk : Hid (∀ i, (Value.slice q k cq).ownBlock = some i → w.heap.size ≤ i ∧ i < wr.heap.size) := fun i hi => HO0.out.lt i hi
   have HO3 : Hid ((w2.alloc (.cells #[.pointer (some ⟨vb, 0, none⟩)] 145)).ownsRow w.heap.size 145 1 (.slice q k cq) k ys) := HO2.out.alloc _
   have HN3 : Hid (∀ (i : Nat) (x : Value), ([.pointer (some ⟨vb, 0, none⟩)] : List Value)[i]? = some x → (w2.alloc (.cells #[.pointer (some ⟨vb, 0, none⟩)] 145)).cell? ((⟨w2.heap.size, 0, none⟩ : Addr).add i) = some x) := World.news_of_block (cs := #[.pointer (some ⟨vb, 0, none⟩)]) (t := 145) (fr := (0, 0)) (heap_alloc_last w2 _)
   have H13 : Hid (∀ u ∈ ([.pointer (some ⟨vb, 0, none⟩)] : List Value), u.oneCell' = true) := fun u hu => by simp at hu; rw [hu]; rfl
   have HZ3 : Hid (w.heap.size ≤ (w2.alloc (.cells #[.pointer (some ⟨vb, 0, none⟩)] 145)).heap.size) := by show _ ≤ _; have := HG2.out.size; simp; omega
   clear hpost hr hx2 hp2 hg2 he1 hl1 hl1' hlt1
   go_wp2_with (at_builtin; refine wpList_append_lies _ rfl _ _ 250 rfl w.heap.size 145 i0 _ 1 8 Tryz.underlying250 hi0 hz0 hs0 hb0 rfl (by decide) _ k _ rfl HO3.out ⟨w2.heap.size, 0, none⟩ 1 1 [.pointer (some ⟨vb, 0, none⟩)] rfl rfl HN3.out H13.out (by decide) (by unfold maxLen; omega) (by omega) HZ3.out (w2.heap.size + 1) (by simp) ?_)
   intro g4 cap4 w4 hown4 hgrow4 hg4 hlt4
   have hW3 : w2.heap.size < (w2.alloc (.cells #[.pointer (some ⟨vb, 0, none⟩)] 145)).heap.size := by simp
   have hsz4 := hgrow4.size
   have hsz2 : wr.heap.size ≤ w2.heap.size := HSz.out
   have hgw : w.heap.size ≤ g4 := by
    rcases hg4 with h | h
    ·exact (HBlk.out g4 h).1
    ·have := HG2.out.size; omega
   have hkp : ∀ (b : Nat) (cs : Array Value) (t : TypeId), some b ≠ (Value.slice q k cq).ownBlock → w2.heap[b]? = some (.cells cs t) → w4.heap[b]? = some (.cells cs t) := fun b cs t hb h => by
    have hlt := (Array.getElem?_eq_some_iff.1 h).1
    rw [hgrow4.block b (by omega) hb, zn hlt]
    exact h
   have hG4 : Gr P w w4 := by
    have h2 := HG2.out
    refine ⟨hgrow4.os.trans h2.os, hgrow4.tape.trans h2.tape, hgrow4.output.trans h2.output, by have := h2.size; omega, fun b hb hne => ?_⟩
    rw [hgrow4.block b (by have := h2.size; omega) (fun e => by have := (HBlk.out b e.symm).1; omega), zn (by have := h2.size; omega)]
    exact h2.block b hb hne
   have hP4 : PS w4 P T o1 c1 l1 := by
    have hPl := HA.out.ltP
    have hTl := HA.out.ltT
    refine HP2.out.of ?_ ?_
    ·rw [hgrow4.block P (by have := HG2.out.size; omega) (fun e => by have := (HBlk.out P e.symm).1; omega), zn (by have := HG2.out.size; omega)]
    ·rw [hgrow4.block T (by have := HG2.out.size; omega) (fun e => by have := (HBlk.out T e.symm).1; omega), zn (by have := HG2.out.size; omega)]
   have hX4 : ExAt (fun i => w.heap.size ≤ i ∧ some i ≠ (Value.slice (some ⟨g4, 0, none⟩) (k + 1) cap4).ownBlock) w4 (chain (xs ++ [t1])) (.tuple (ys ++ [Value.pointer (some ⟨vb, 0, none⟩)]).toArray) := by
    have hA : ExAt (fun i => w.heap.size ≤ i ∧ some i ≠ (Value.slice q k cq).ownBlock ∧ i < w2.heap.size) w2 (chain xs) (.tuple ys.toArray) := ExAt.mono (fun i h hi => ⟨h.1, h.2, hi⟩) _ _ HX3.out
    have hB : ExAt (fun i => w.heap.size ≤ i ∧ some i ≠ (Value.slice q k cq).ownBlock ∧ i < w2.heap.size) w2 t1 (.pointer (some ⟨vb, 0, none⟩)) := ExAt.mono (fun i h hi => ⟨by have : wr.heap.size ≤ i := h; have := HGR.out.size; omega, fun e => by have := (HBlk.out i e.symm).2; have : wr.heap.size ≤ i := h; omega, hi⟩) _ _ HX2.out
    have hC := chain_snoc hB xs ys hA
    refine ExAt.mono (fun i h _ => ⟨h.1, fun e => ?_⟩) _ _ (ExAt.kept (fun b cs t hb _ h => hkp b cs t hb.2.1 h) _ _ hC)
    have e' : i = g4 := by injection e
    rcases hg4 with hh | hh
    ·exact h.2.1 (by rw [hh, e'])
    ·have := h.2.2; omega
   have HX4 : Hid (ExAt (fun i => w.heap.size ≤ i ∧ some i ≠ (Value.slice (some ⟨g4, 0, none⟩) (k + 1) cap4).ownBlock) w4 (chain (xs ++ [t1])) (.tuple (ys ++ [Value.pointer (some ⟨vb, 0, none⟩)]).toArray)) := hX4
   have HG4 : Hid (Gr P w w4) := hG4
   have HA4 : Hid (At w4 P T o1 c1 (d + 1) l1) := HA.out.go hG4 hP4 HE2.out.1 (by have := HA0.out.deep; have := HE2.out.2; omega)
   have HO4 : Hid (w4.ownsRow w.heap.size 145 1 (.slice (some ⟨g4, 0, none⟩) (k + 1) cap4) (k + 1) (ys ++ [Value.pointer (some ⟨vb, 0, none⟩)])) := hown4
   clear hown4 hgrow4 hg4 hlt4 hW3 hsz4 hsz2 hgw hkp hG4 hP4 hX4 HO3 HN3 H13 HZ3 HX2 HX3 HO2 HBlk
   go_wp2_with (go_at_call 95; fail)
   refine (more_at HA4.out).mono ?_
   rintro e w5 (⟨b1, hv, rfl, hp, hg, he, hlt⟩ | ⟨hv1, hv2, ⟨a, rfl, ha⟩, hg⟩)
   rotate_left
   ·refine ⟨rfl, HG0.out _ _ ?_⟩
    rw [HM0.out, exV, HR.out]
    show ArPost w P T (cat xs (if (hd l1).t = [44] then _ else bnd (zf [41] l1) _)) _ _
    unfold zf
    rw [if_neg hv1, if_neg hv2]
    exact ⟨⟨a, rfl, ha⟩, HG4.out.trans hg⟩
   have HI5 : Hid (ArgI n d w P T l M b1 (.slice (some ⟨g4, 0, none⟩) (k + 1) cap4) (k + 1) w5) := by
    refine ⟨⟨xs ++ [t1], ys ++ [Value.pointer (some ⟨vb, 0, none⟩)], l1.tail, _, _, by simp [HK.out], ?_, own_gr HA4.out.ps hg HO4.out, jf HA4.out.ps hg HX4.out, hp, he, ?_, ?_, ?_⟩, HG4.out.trans hg⟩
    ·have := HF0.out; have := HE2.out.2; omega
    ·have := HF0.out; have := HE2.out.2; omega
    ·rintro rfl
     rw [HM0.out, exV, HR.out]
     have hv' : (hd l1).t = [41] := hv
     show cat xs (if (hd l1).t = [44] then _ else bnd (zf [41] l1) _) = _
     unfold zf
     rw [if_neg (by rw [hv']; decide), if_pos hv']
     show cat xs (.ok (cc t1 ce, l1.tail)) = _
     rw [← foldr_ce, List.foldr_append]
     rfl
    ·rintro rfl
     refine ⟨f, ?_, ?_, ?_⟩
     ·rw [HM0.out, exV, HR.out]
      have hv' : (hd l1).t = [44] := hv
      show cat xs (if (hd l1).t = [44] then bnd (exV f 7 0 d ce 0 l1.tail) _ else _) = _
      rw [if_pos hv']
      cases exV f 7 0 d ce 0 l1.tail with
      | error e => rfl
      | ok r => obtain ⟨g, l2⟩ := r; exact (cat_snoc xs t1 g l2).symm
     ·have := HF0.out; have := HE2.out.2; omega
     ·have := HF0.out; omega
   have HPL5 : Hid (plen P w5 < plen P wr) := by
    show _ < _
    rw [HPL.out, hp.plen]
    have := HE2.out.2
    omega
   clear hv hp hg he hlt
   go_wp2
   exact ⟨⟨b1, _, _, _, rfl, rfl, HI5.out⟩, HPL5.out⟩
structure AllEx (n : Nat) : Prop where
 bin : BinC n
 one : OneC n
 leaf : LeafC n
 held : HeldC n
 args : ArgsC n
theorem At.pos {w : World} {P T o c d : Nat} {l : List Tok} (h : At w P T o c d l) : 1 ≤ l.length := h.ends.pos
theorem idx_of {n : Nat} (h : ∀ m, m ≤ n → BinC m) : IdxC n := fun m hm d w P T o c l hA hl => by
 obtain ⟨k, rfl⟩ : ∃ k, m = k + 1 := ⟨m - 1, by omega⟩
 exact index_walk k (h k (by omega)) d w P T o c l hA (by omega)
theorem expr_of {n : Nat} (h : ∀ m, m ≤ n → BinC m) : ExprC n := fun m hm d w P T o c l hA hl => expr_walk m (h m hm) d w P T o c l hA hl
theorem all_ex : ∀ n m, m ≤ n → AllEx m
 | 0, m, hm => by
  obtain rfl : m = 0 := by omega
  exact ⟨fun lv d w P T o c l h h1 h2 h3 => by have := h.pos; omega, fun d w P T o c l h h3 => by have := h.pos; omega, fun d w P T o c l h h3 => by have := h.pos; omega, fun d w P T o c l h h3 => by have := h.pos; omega, fun d w P T o c l h h3 => by have := h.pos; omega⟩
 | n + 1, m, hm => by
  have ih := all_ex n
  by_cases hlt : m ≤ n
  ·exact ih m hlt
  obtain rfl : m = n + 1 := by omega
  have hB : BinC (n + 1) := fun lv d w P T o c l h h1 h2 h3 => by
   by_cases h7 : lv = 7
   ·subst h7
    exact bin_last n (ih n (Nat.le_refl _)).one d w P T o c l h (by omega)
   ·exact bin_walk n (fun m hm => (ih m hm).bin) lv d w P T o c l h h1 (by omega) h3
  have hBs : ∀ m, m ≤ n + 1 → BinC m := fun m hm => by
   by_cases h : m ≤ n
   ·exact (ih m h).bin
   ·obtain rfl : m = n + 1 := by omega
    exact hB
  have hH : HeldC (n + 1) := fun d w P T o c l h h3 => held_walk n (ih n (Nat.le_refl _)).bin d w P T o c l h h3
  have hL : LeafC (n + 1) := fun d w P T o c l h h3 => by
   by_cases k2 : (hd l).k = 2
   ·exact leaf_num n d w P T o c l h k2
   ·by_cases k0 : (hd l).k = 0
    ·exact leaf_name n (ih n (Nat.le_refl _)).args d w P T o c l h h3 k0
    ·exact leaf_rest n (ih n (Nat.le_refl _)).held d w P T o c l h h3 k2 k0
  have hO : OneC (n + 1) := fun d w P T o c l h h3 => by
   by_cases hk : d ≤ 12 ∨ (hd l).k = 3
   ·by_cases h1 : (hd l).t = [45]
    ·exact one_minus n (ih n (Nat.le_refl _)).one d w P T o c l h hk h3 ⟨#[45]⟩ h1 rfl
    ·by_cases h2 : (hd l).t = [33]
     ·exact one_not n (ih n (Nat.le_refl _)).one d w P T o c l h hk h3 ⟨#[33]⟩ h2 rfl
     ·exact one_leaf n (ih n (Nat.le_refl _)).leaf (idx_of fun m hm => (ih m hm).bin) d w P T o c l h hk h3 h1 h2
   ·exact one_deep n d w P T o c l h (by omega) (by omega)
  exact ⟨hB, hO, hL, hH, fun d w P T o c l h h3 => args_walk (n + 1) (expr_of hBs) d w P T o c l h h3⟩
theorem bin_all (n : Nat) : BinC n := (all_ex n n (Nat.le_refl _)).bin
theorem expr_all (n : Nat) : ExprC n := expr_of fun m _ => bin_all m
theorem idx_all (n : Nat) : IdxC n := idx_of fun m _ => bin_all m
theorem held_all (n : Nat) : HeldC n := (all_ex n n (Nat.le_refl _)).held
theorem args_all (n : Nat) : ArgsC n := (all_ex n n (Nat.le_refl _)).args
abbrev st (c a : Int) (nm : By) (ix v th el : Tr) : Tr := .agg [.lit (.int .i64 c), .lit (.int .i64 a), .lit (.string nm), ix, v, th, el]
abbrev ef (l : List Tok) : Nat := 12 * l.length + 20
def zU (l : List Tok) : R Tr := exV (ef l) 0 1 0 .nil 0 l
def qC (l : List Tok) : R Tr := exV (ef l) 5 0 0 .nil 0 l
def idxV (l : List Tok) : R Tr := exV (ef l) 6 0 0 .nil 0 l
def argsV (l : List Tok) : R Tr := argV (ef l) 0 l
def zQ (a : Nat) (l : List Tok) : R Tr :=
 bnd (zI l) fun nm l1 =>
  if (hd l1).t = [40] then bnd (argsV l1.tail) fun g l2 => .ok (st 8 a [] .nil (nd 5 a 0 nm [] .nil .nil g) ce ce, l2)
  else if (hd l1).t = [91] then bnd (idxV l1.tail) fun i l2 => bnd (zf [61] l2) fun _ l3 => bnd (zU l3) fun v l4 => .ok (st 3 a nm i v ce ce, l4)
  else bnd (zf [61] l1) fun _ l3 => bnd (zU l3) fun v l4 => .ok (st 2 a nm .nil v ce ce, l4)
def stV : Nat → Nat → Nat → List Tok → R Tr
 | 0, _, _, _ => .error (0, 0)
 | f + 1, 0, d, l => bnd (qU d l) fun _ _ => bnd (zf [123] l) fun _ l1 => stV f 1 d l1
 | f + 1, 1, d, l => if (hd l).t = [125] then .ok (ce, l.tail) else bnd (stV f 2 (d + 1) l) fun t l1 => bnd (stV f 1 d l1) fun g l2 => .ok (cc t g, l2)
 | f + 1, 2, d, l =>
  if (hd l).k = 0 then bnd (zQ (hd l).p l) fun t l1 => bnd (zf [59] l1) fun _ l2 => .ok (t, l2)
  else if (hd l).t = [118, 97, 114] then bnd (zI l.tail) fun nm l1 => bnd (zf [61] l1) fun _ l2 => bnd (zU l2) fun v l3 => bnd (zf [59] l3) fun _ l4 => .ok (st 1 (hd l).p nm .nil v ce ce, l4)
  else if (hd l).t = [114, 101, 116, 117, 114, 110] then bnd (zU l.tail) fun v l3 => bnd (zf [59] l3) fun _ l4 => .ok (st 6 (hd l).p [] .nil v ce ce, l4)
  else if (hd l).t = [112, 114, 105, 110, 116] then bnd (zU l.tail) fun v l3 => bnd (zf [59] l3) fun _ l4 => .ok (st 7 (hd l).p [] .nil v ce ce, l4)
  else if (hd l).t = [105, 102] then bnd (qC l.tail) fun v l1 => bnd (stV f 0 d l1) fun th l2 =>
   if (hd l2).t = [101, 108, 115, 101] then bnd (stV f 0 d l2.tail) fun el l3 => .ok (st 4 (hd l).p [] .nil v th el, l3) else .ok (st 4 (hd l).p [] .nil v th ce, l2)
  else if (hd l).t = [119, 104, 105, 108, 101] then bnd (qC l.tail) fun v l1 => bnd (stV f 0 d l1) fun th l2 => .ok (st 5 (hd l).p [] .nil v th ce, l2)
  else .error (3, (hd l).p)
 | _ + 1, _ + 3, _, _ => .error (0, 0)
theorem zm {x : By} {l l' : List Tok} {u : Unit} (h : zf x l = .ok (u, l')) (hx : x ≠ []) (he : Ends l) : Ends l' ∧ l'.length < l.length := by
 obtain ⟨h1, rfl⟩ := qy h
 obtain ⟨e1, _, _, e4⟩ := he.tail (by rw [h1]; exact hx)
 exact ⟨e1, e4⟩
theorem jm {l l' : List Tok} {v : By} (h : zI l = .ok (v, l')) (he : Ends l) : Ends l' ∧ l'.length < l.length := by
 obtain ⟨h1, _, _, rfl⟩ := name_ok h
 obtain ⟨e1, _, _, e4⟩ := he.tail (he.kind (by omega))
 exact ⟨e1, e4⟩
theorem qA {l l' : List Tok} {v : Tr} (h : zU l = .ok (v, l')) (he : Ends l) : Ends l' ∧ l'.length < l.length := by
 obtain ⟨a, _, c⟩ := zq _ 0 1 0 .nil 0 l v l' (fun _ => by omega) he h
 exact ⟨a, c (by decide) (by decide)⟩
theorem held_tail {l l' : List Tok} {v : Tr} (h : qC l = .ok (v, l')) (he : Ends l) : Ends l' ∧ l'.length < l.length := by
 obtain ⟨a, _, c⟩ := zq _ 5 0 0 .nil 0 l v l' (fun h => by omega) he h
 exact ⟨a, c (by decide) (by decide)⟩
theorem idx_tail {l l' : List Tok} {v : Tr} (h : idxV l = .ok (v, l')) (he : Ends l) : Ends l' ∧ l'.length < l.length := by
 obtain ⟨a, _, c⟩ := zq _ 6 0 0 .nil 0 l v l' (fun h => by omega) he h
 exact ⟨a, c (by decide) (by decide)⟩
theorem argV_tail {n d : Nat} {l l' : List Tok} {v : Tr} (h : argV n d l = .ok (v, l')) (he : Ends l) : Ends l' ∧ l'.length < l.length := by
 unfold argV at h
 split at h
 ·rename_i h1
  obtain ⟨e1, _, _, e4⟩ := he.tail (by rw [h1]; simp)
  injection h with h
  injection h with _ h
  subst h
  exact ⟨e1, e4⟩
 ·obtain ⟨a, _, c⟩ := zq _ 7 0 d ce 0 l v l' (fun h => by omega) he h
  exact ⟨a, c (by decide) (by decide)⟩
theorem zC {x : By} {l : List Tok} (h : (hd l).t = x) (hx : x ≠ []) (he : Ends l) : Ends l.tail ∧ l.tail.length < l.length := by
 obtain ⟨e1, _, _, e4⟩ := he.tail (by rw [h]; exact hx)
 exact ⟨e1, e4⟩
theorem zk {t u : Tr} {l l' : List Tok} (h : (Except.ok (u, l) : R Tr) = .ok (t, l')) : u = t ∧ l = l' := by
 injection h with h
 injection h with h1 h2
 exact ⟨h1, h2⟩
theorem named_tail {a : Nat} {l l' : List Tok} {t : Tr} (h : zQ a l = .ok (t, l')) (he : Ends l) : Ends l' ∧ l'.length < l.length := by
 unfold zQ at h
 obtain ⟨nm, l1, h1, h⟩ := za h
 obtain ⟨e1, s1⟩ := jm h1 he
 split at h
 ·rename_i h40
  obtain ⟨e2, s2⟩ := zC h40 (by decide) e1
  obtain ⟨g, l2, h2, h⟩ := za h
  obtain ⟨e3, s3⟩ := argV_tail h2 e2
  obtain ⟨_, rfl⟩ := zk h
  exact ⟨e3, by omega⟩
 split at h
 ·rename_i h91
  obtain ⟨e2, s2⟩ := zC h91 (by decide) e1
  obtain ⟨g, l2, h2, h⟩ := za h
  obtain ⟨e3, s3⟩ := idx_tail h2 e2
  obtain ⟨_, l3, h3, h⟩ := za h
  obtain ⟨e4, s4⟩ := zm h3 (by decide) e3
  obtain ⟨v, l4, h4, h⟩ := za h
  obtain ⟨e5, s5⟩ := qA h4 e4
  obtain ⟨_, rfl⟩ := zk h
  exact ⟨e5, by omega⟩
 ·obtain ⟨_, l3, h3, h⟩ := za h
  obtain ⟨e4, s4⟩ := zm h3 (by decide) e1
  obtain ⟨v, l4, h4, h⟩ := za h
  obtain ⟨e5, s5⟩ := qA h4 e4
  obtain ⟨_, rfl⟩ := zk h
  exact ⟨e5, by omega⟩
theorem qD : ∀ (f g d : Nat) (l : List Tok) (t : Tr) (l' : List Tok), Ends l → stV f g d l = .ok (t, l') → Ends l' ∧ l'.length < l.length
 | 0, _, _, _, _, _, _, h => by simp [stV] at h
 | f + 1, 0, d, l, t, l', he, h => by
  rw [stV] at h
  obtain ⟨_, _, _, h⟩ := za h
  obtain ⟨_, l1, h1, h⟩ := za h
  obtain ⟨e1, s1⟩ := zm h1 (by decide) he
  obtain ⟨e2, s2⟩ := qD f 1 d l1 t l' e1 h
  exact ⟨e2, by omega⟩
 | f + 1, 1, d, l, t, l', he, h => by
  rw [stV] at h
  split at h
  ·rename_i h1
   obtain ⟨e1, s1⟩ := zC h1 (by decide) he
   obtain ⟨_, rfl⟩ := zk h
   exact ⟨e1, s1⟩
  ·obtain ⟨t1, l1, h1, h⟩ := za h
   obtain ⟨e1, s1⟩ := qD f 2 (d + 1) l t1 l1 he h1
   obtain ⟨g, l2, h2, h⟩ := za h
   obtain ⟨e2, s2⟩ := qD f 1 d l1 g l2 e1 h2
   obtain ⟨_, rfl⟩ := zk h
   exact ⟨e2, by omega⟩
 | f + 1, 2, d, l, t, l', he, h => by
  rw [stV] at h
  split at h
  ·obtain ⟨t1, l1, h1, h⟩ := za h
   obtain ⟨e1, s1⟩ := named_tail h1 he
   obtain ⟨_, l2, h2, h⟩ := za h
   obtain ⟨e2, s2⟩ := zm h2 (by decide) e1
   obtain ⟨_, rfl⟩ := zk h
   exact ⟨e2, by omega⟩
  split at h
  ·rename_i h0
   obtain ⟨e0, s0⟩ := zC h0 (by decide) he
   obtain ⟨nm, l1, h1, h⟩ := za h
   obtain ⟨e1, s1⟩ := jm h1 e0
   obtain ⟨_, l2, h2, h⟩ := za h
   obtain ⟨e2, s2⟩ := zm h2 (by decide) e1
   obtain ⟨v, l3, h3, h⟩ := za h
   obtain ⟨e3, s3⟩ := qA h3 e2
   obtain ⟨_, l4, h4, h⟩ := za h
   obtain ⟨e4, s4⟩ := zm h4 (by decide) e3
   obtain ⟨_, rfl⟩ := zk h
   exact ⟨e4, by omega⟩
  split at h
  ·rename_i h0
   obtain ⟨e0, s0⟩ := zC h0 (by decide) he
   obtain ⟨v, l3, h3, h⟩ := za h
   obtain ⟨e3, s3⟩ := qA h3 e0
   obtain ⟨_, l4, h4, h⟩ := za h
   obtain ⟨e4, s4⟩ := zm h4 (by decide) e3
   obtain ⟨_, rfl⟩ := zk h
   exact ⟨e4, by omega⟩
  split at h
  ·rename_i h0
   obtain ⟨e0, s0⟩ := zC h0 (by decide) he
   obtain ⟨v, l3, h3, h⟩ := za h
   obtain ⟨e3, s3⟩ := qA h3 e0
   obtain ⟨_, l4, h4, h⟩ := za h
   obtain ⟨e4, s4⟩ := zm h4 (by decide) e3
   obtain ⟨_, rfl⟩ := zk h
   exact ⟨e4, by omega⟩
  split at h
  ·rename_i h0
   obtain ⟨e0, s0⟩ := zC h0 (by decide) he
   obtain ⟨v, l3, h3, h⟩ := za h
   obtain ⟨e3, s3⟩ := held_tail h3 e0
   obtain ⟨th, l4, h4, h⟩ := za h
   obtain ⟨e4, s4⟩ := qD f 0 d l3 th l4 e3 h4
   split at h
   ·rename_i h5
    obtain ⟨e5, s5⟩ := zC h5 (by decide) e4
    obtain ⟨el, l6, h6, h⟩ := za h
    obtain ⟨e6, s6⟩ := qD f 0 d l4.tail el l6 e5 h6
    obtain ⟨_, rfl⟩ := zk h
    exact ⟨e6, by omega⟩
   ·obtain ⟨_, rfl⟩ := zk h
    exact ⟨e4, by omega⟩
  split at h
  ·rename_i h0
   obtain ⟨e0, s0⟩ := zC h0 (by decide) he
   obtain ⟨v, l3, h3, h⟩ := za h
   obtain ⟨e3, s3⟩ := held_tail h3 e0
   obtain ⟨th, l4, h4, h⟩ := za h
   obtain ⟨e4, s4⟩ := qD f 0 d l3 th l4 e3 h4
   obtain ⟨_, rfl⟩ := zk h
   exact ⟨e4, by omega⟩
  ·cases h
 | f + 1, g + 3, d, l, t, l', he, h => by simp [stV] at h
abbrev Ot (t : TypeId) : Prop := t ≠ 78 ∧ t ≠ 5 ∧ t ≠ 83
def Keeps (S : Nat → Prop) (w w' : World) : Prop := ∀ (b : Nat) (cs : Array Value) (t : TypeId), S b → Ot t → w.heap[b]? = some (.cells cs t) → w'.heap[b]? = some (.cells cs t)
theorem Keeps.trans {S : Nat → Prop} {a b c : World} (h : Keeps S a b) (g : Keeps S b c) : Keeps S a c := fun k cs t hk ht hb => g k cs t hk ht (h k cs t hk ht hb)
theorem Keeps.gr {S : Nat → Prop} {P T o c : Nat} {w w' : World} {l : List Tok} (hp : PS w P T o c l) (hg : Gr P w w') : Keeps S w w' := fun b cs t _ ht hb => by
 have hne : b ≠ P := fun e => by
  subst e
  rw [hp.own] at hb
  injection hb with hb
  injection hb with _ h2
  exact ht.1 h2.symm
 exact hg.blk hb hne
theorem Keeps.set {m q i : Nat} {w : World} {v : Value} (hq : q < m) : Keeps (Fr m) w (w.setCell ⟨q, i, none⟩ v) := fun b cs t hb ht h => by
 rw [heap_setCell_other _ _ _ _ (by show b ≠ q; have : m ≤ b := hb; omega)]
 exact h
theorem Keeps.alloc {S : Nat → Prop} {w : World} (A : Obj) : Keeps S w (w.alloc A) := fun b cs t _ _ h => by
 rw [zn (Array.getElem?_eq_some_iff.1 h).1]; exact h
theorem Keeps.ex {S : Nat → Prop} {w w' : World} (h : Keeps S w w') {t : Tr} {v : Value} (hx : ExAt S w t v) : ExAt S w' t v :=
 ExAt.kept (fun b cs t hb ht => h b cs t hb (by rcases ht with rfl | rfl <;> decide)) t v hx
theorem Keeps.row {S : Nat → Prop} {w w' : World} (h : Keeps S w w') {B e z n : Nat} {v : Value} {ys : List Value} (he : Ot e) (hr : w.ownsRow B e z v n ys) (hs : ∀ i, v.ownBlock = some i → S i) : w'.ownsRow B e z v n ys := by
 refine ⟨hr.1, ?_⟩
 rcases hr.2 with hh | ⟨g', cap, cur, hv, hb, hg, rest⟩
 ·exact .inl hh
 ·exact .inr ⟨g', cap, cur, hv, hb, h _ _ _ (hs g' (by rw [hv]; rfl)) he hg, rest⟩
def RowS (S : Nat → Prop) (w : World) (e z : Nat) (v : Value) (n : Nat) (cs : List Value) : Prop := w.ownsRow 0 e z v n cs ∧ ∀ i, v.ownBlock = some i → S i
theorem RowS.kept {S : Nat → Prop} {w w' : World} {e z n : Nat} {v : Value} {cs : List Value} (h : RowS S w e z v n cs) (hk : Keeps S w w') (he : Ot e) : RowS S w' e z v n cs := ⟨hk.row he h.1 h.2, h.2⟩
theorem RowS.mono {S S' : Nat → Prop} {w : World} {e z n : Nat} {v : Value} {cs : List Value} (h : RowS S w e z v n cs) (hm : ∀ b, S b → b < w.heap.size → S' b) : RowS S' w e z v n cs := ⟨h.1, fun i hi => hm i (h.2 i hi) (own_lt h.1 i hi)⟩
theorem RowS.none (S : Nat → Prop) (w : World) (e z : Nat) : RowS S w e z (.slice none 0 0) 0 [] := ⟨World.ownsRow_nil w _ _ _, fun i hi => by cases hi⟩
def StAt (S : Nat → Prop) (w : World) : Tr → List Value → Prop
 | .slice [.agg [.lit (.int _ c), .lit (.int _ a), .lit (.string nm), ix, v, th, el]] [g], cs =>
  ∃ (vi vv : Option Addr) (vt ve : Value) (nt ne : Nat) (ts es rest : List Value), cs = [.int .i64 c, .int .i64 a, str nm, .pointer vi, .pointer vv, vt, ve] ++ rest ∧ ExAt S w ix (.pointer vi) ∧ ExAt S w v (.pointer vv) ∧ RowS S w 147 7 vt nt ts ∧ StAt S w th ts ∧ RowS S w 147 7 ve ne es ∧ StAt S w el es ∧ StAt S w g rest
 | .slice [] [], cs => cs = []
 | _, _ => False
theorem StAt.kept {S : Nat → Prop} {w w' : World} (h1 : Keeps S w w') (t : Tr) (cs : List Value) (h : StAt S w t cs) : StAt S w' t cs := by
 unfold StAt at h
 split at h
 ·obtain ⟨vi, vv, vt, ve, nt, ne, ts, es, rest, e, a1, a2, a3, a4, a5, a6, a7⟩ := h
  rw [StAt]
  exact ⟨vi, vv, vt, ve, nt, ne, ts, es, rest, e, h1.ex a1, h1.ex a2, a3.kept h1 (by decide), StAt.kept h1 _ _ a4, a5.kept h1 (by decide), StAt.kept h1 _ _ a6, StAt.kept h1 _ _ a7⟩
 ·rw [StAt]; exact h
 ·exact h.elim
theorem StAt.mono {S S' : Nat → Prop} {w : World} (h1 : ∀ b, S b → b < w.heap.size → S' b) (t : Tr) (cs : List Value) (h : StAt S w t cs) : StAt S' w t cs := by
 unfold StAt at h
 split at h
 ·obtain ⟨vi, vv, vt, ve, nt, ne, ts, es, rest, e, a1, a2, a3, a4, a5, a6, a7⟩ := h
  rw [StAt]
  exact ⟨vi, vv, vt, ve, nt, ne, ts, es, rest, e, ExAt.mono h1 _ _ a1, ExAt.mono h1 _ _ a2, a3.mono h1, StAt.mono h1 _ _ a4, a5.mono h1, StAt.mono h1 _ _ a6, StAt.mono h1 _ _ a7⟩
 ·rw [StAt]; exact h
 ·exact h.elim
theorem StAt.old {m n : Nat} {w : World} {t : Tr} {cs : List Value} (h : StAt (Fr m) w t cs) (hm : n ≤ m) : StAt (Fr n) w t cs := StAt.mono (fun b hb _ => Nat.le_trans hm hb) t cs h
theorem st_none (S : Nat → Prop) (w : World) : StAt S w ce [] := by rw [StAt]
theorem st_plain {S : Nat → Prop} {w : World} {c a : Int} {nm : By} {ix v : Tr} {vi vv : Option Addr} (hi : ExAt S w ix (.pointer vi)) (hv : ExAt S w v (.pointer vv)) : StAt S w (cc (st c a nm ix v ce ce) ce) [.int .i64 c, .int .i64 a, str nm, .pointer vi, .pointer vv, .slice none 0 0, .slice none 0 0] := by
 rw [StAt]
 exact ⟨vi, vv, _, _, 0, 0, [], [], [], rfl, hi, hv, RowS.none S w 147 7, st_none S w, RowS.none S w 147 7, st_none S w, st_none S w⟩
theorem At.zero {w : World} {P T o c d : Nat} {l : List Tok} (h : At w P T o c d l) : At w P T o c 0 l := ⟨h.env, h.ps, h.ends, h.far, by have := h.deep; omega⟩
theorem expr_at {w : World} {P T o c d : Nat} {l : List Tok} (h : At w P T o c d l) : Calls Tryz.prog 206 #[.pointer (some ⟨P, 0, none⟩), .int .i64 0] w (ExPost w P T (zU l)) := expr_all _ _ (Nat.le_refl _) 0 w P T o c l h.zero (by unfold ef; omega)
theorem held_at {w : World} {P T o c d : Nat} {l : List Tok} (h : At w P T o c d l) : Calls Tryz.prog 207 #[.pointer (some ⟨P, 0, none⟩), .int .i64 0] w (ExPost w P T (qC l)) := held_all _ 0 w P T o c l h.zero (by unfold ef; omega)
theorem idx_at {w : World} {P T o c d : Nat} {l : List Tok} (h : At w P T o c d l) (hd : 1 + l.length ≤ 100000) : Calls Tryz.prog 234 #[.pointer (some ⟨P, 0, none⟩), .int .i64 0] w (ExPost w P T (idxV l)) := idx_all _ _ (Nat.le_refl _) 0 w P T o c l ⟨h.env, h.ps, h.ends, h.far, hd⟩ (by unfold ef; omega)
theorem args_at {w : World} {P T o c d : Nat} {l : List Tok} (h : At w P T o c d l) (hd : 1 + l.length ≤ 100000) : Calls Tryz.prog 233 #[.pointer (some ⟨P, 0, none⟩), .int .i64 0] w (ArPost w P T (argsV l)) := args_all _ 0 w P T o c l ⟨h.env, h.ps, h.ends, h.far, hd⟩ (by unfold ef; omega)
theorem expr_ptr {S : Nat → Prop} {w : World} {l l' : List Tok} {t : Tr} {v : Value} (h : zU l = .ok (t, l')) (hx : ExAt S w t v) : ∃ b, v = .pointer (some ⟨b, 0, none⟩) := IsNd.ptr (zw _ 0 1 0 .nil 0 l t l' (by omega) (by omega) h) hx
theorem held_ptr {S : Nat → Prop} {w : World} {l l' : List Tok} {t : Tr} {v : Value} (h : qC l = .ok (t, l')) (hx : ExAt S w t v) : ∃ b, v = .pointer (some ⟨b, 0, none⟩) := IsNd.ptr (zw _ 5 0 0 .nil 0 l t l' (by omega) (by omega) h) hx
theorem idx_ptr {S : Nat → Prop} {w : World} {l l' : List Tok} {t : Tr} {v : Value} (h : idxV l = .ok (t, l')) (hx : ExAt S w t v) : ∃ b, v = .pointer (some ⟨b, 0, none⟩) := IsNd.ptr (zw _ 6 0 0 .nil 0 l t l' (by omega) (by omega) h) hx
end Go.Proofs.YtnfhpdbbfejioaaGreatDoor
