/- args. -/
import Derived.Test.YtpakgaegckkmnaaGreatDoorTJ
namespace Go.Proofs.YtpakgaegckkmnaaGreatDoor
set_option linter.unusedVariables false
set_option linter.unusedSimpArgs false
open Go Go.RowKit

theorem info84 : (Tryz.prog.info? 84).map (fun i => (i.zero, i.size, i.bytes)) = some (some (.pointer none), 1, 8) := by kernel_rfl
/-- Trees ahead of what is read yet. -/
def cat (xs : List Tr) (r : R Tr) : R Tr :=
  match r with
  | .ok (g, l) => .ok (xs.foldr cc g, l)
  | .error e => .error e
theorem cat_snoc (xs : List Tr) (t g : Tr) (l : List Tok) : cat (xs ++ [t]) (.ok (g, l)) = cat xs (.ok (cc t g, l)) := by simp [cat]
theorem foldr_ce (xs : List Tr) : xs.foldr cc ce = chain xs := by
  induction xs with
  | nil => rfl
  | cons x xs ih => rw [List.foldr_cons, ih]; rfl
theorem chain_snoc {S : Nat → Prop} {w : World} {t : Tr} {v : Value} (ht : ExAt S w t v) : ∀ (xs : List Tr) (ys : List Value), ExAt S w (chain xs) (.tuple ys.toArray) → ExAt S w (chain (xs ++ [t])) (.tuple (ys ++ [v]).toArray)
  | [], ys, h => by
    have h' : Value.tuple ys.toArray = .tuple #[] := by
      have : ExAt S w (.slice [] []) (.tuple ys.toArray) := h
      rw [ExAt] at this
      exact this
    injection h' with h'
    have : ys = [] := by simpa using h'
    subst this
    show ExAt S w (.slice [t] [.slice [] []]) _
    rw [ExAt]
    exact ⟨v, [], rfl, ht, by rw [ExAt]⟩
  | x :: xs, ys, h => by
    have h' : ExAt S w (.slice [x] [chain xs]) (.tuple ys.toArray) := h
    rw [ExAt] at h'
    obtain ⟨y, zs, e, hx, hz⟩ := h'
    injection e with e
    have : ys = y :: zs := by simpa using congrArg Array.toList e
    subst this
    show ExAt S w (.slice [x] [chain (xs ++ [t])]) _
    rw [ExAt]
    exact ⟨y, zs ++ [v], rfl, hx, chain_snoc ht xs zs hz⟩

theorem own_gr {P T o c B n : Nat} {w w' : World} {l : List Tok} {v : Value} {ys : List Value} (hp : PS w P T o c l) (hg : Gr P w w') (h : w.ownsRow B 84 1 v n ys) : w'.ownsRow B 84 1 v n ys := by
  refine ⟨h.1, ?_⟩
  rcases h.2 with hh | ⟨g', cap, cur, hv, hb, hq, rest⟩
  · exact .inl hh
  · exact .inr ⟨g', cap, cur, hv, hb, gr_keeps hp.own hg _ _ _ (.inr rfl) hq, rest⟩
/-- more, each way. -/
theorem more_at {w : World} {P T o c d : Nat} {l : List Tok} (h : At w P T o c d l) :
    Calls Tryz.prog 46 #[.pointer (some ⟨P, 0, none⟩)] w fun e w' => (∃ b : Bool, (hd l).t = (if b then [44] else [41]) ∧ e = .returned (.bool b) ∧ PS w' P T (o + 3) (c - 1) l.tail ∧ Gr P w w' ∧ Ends l.tail ∧ l.tail.length < l.length) ∨ ((hd l).t ≠ [44] ∧ (hd l).t ≠ [41] ∧ Threw 3 (hd l).p e w' ∧ Gr P w w') := by
  by_cases h1 : (hd l).t = [44]
  · obtain ⟨e1, e2, e3, e4⟩ := h.ends.tail (by rw [h1]; simp)
    exact (more_comma w P T o c (hd l) l.tail h.psc e2 h1).mono fun e w' ⟨a, b, g⟩ => .inl ⟨true, h1, a, b, g, e1, e4⟩
  · by_cases h2 : (hd l).t = [41]
    · obtain ⟨e1, e2, e3, e4⟩ := h.ends.tail (by rw [h2]; simp)
      exact (more_end w P T o c (hd l) l.tail h.psc e2 h2).mono fun e w' ⟨a, b, g⟩ => .inl ⟨false, h2, a, b, g, e1, e4⟩
    · exact (more_no w P T o c (hd l) l.tail h.psc h1 h2).mono fun e w' ⟨a, b⟩ => .inr ⟨h1, h2, a, gr_below b⟩

/-- In the loop of args. -/
structure ArgI (n d : Nat) (w : World) (P T : Nat) (l : List Tok) (M : R Tr) (b : Bool) (v : Value) (k : Nat) (wr : World) : Prop where
  at' : ∃ xs ys lc o' c', ys.length = k ∧ k + lc.length ≤ l.length + 1 ∧ wr.ownsRow w.heap.size 84 1 v k ys ∧ ExAt (fun i => w.heap.size ≤ i ∧ some i ≠ v.ownBlock) wr (chain xs) (.tuple ys.toArray) ∧ PS wr P T o' c' lc ∧ Ends lc ∧ lc.length ≤ l.length ∧
    (b = false → M = .ok (chain xs, lc)) ∧ (b = true → ∃ f, M = cat xs (exV f 7 0 d ce 0 lc) ∧ 12 * lc.length + 10 ≤ f ∧ f ≤ n)
  gr : Gr P w wr
def ExprC (n : Nat) : Prop := ∀ m, m ≤ n → ∀ (d : Nat) (w : World) (P T o c : Nat) (l : List Tok), At w P T o c d l → 12 * l.length + 9 ≤ m → Calls Tryz.prog 79 #[.pointer (some ⟨P, 0, none⟩), .int .i64 (d : Int)] w (ExPost w P T (exV m 0 1 d .nil 0 l))

set_option maxRecDepth 100000 in
set_option maxHeartbeats 8000000 in
theorem args_walk (n : Nat) (IE : ExprC n) (d : Nat) (w : World) (P T o c : Nat) (l : List Tok) (h : At w P T o c (d + 1) l) (hn : 12 * l.length + 10 ≤ n) :
    Calls Tryz.prog 91 #[.pointer (some ⟨P, 0, none⟩), .int .i64 (d : Int)] w (ArPost w P T (argV n d l)) := by
  obtain ⟨i0, hi0, hz0, hs0, hb0⟩ := info_parts info84
  have HA : Hid (At w P T o c (d + 1) l) := h
  have HN : Hid (12 * l.length + 10 ≤ n) := hn
  have hdd := h.deep
  have HE1 : Hid (∀ m, m ≤ n → ∀ (w : World) (o c : Nat) (l : List Tok), At w P T o c (d + 1) l → 12 * l.length + 9 ≤ m → Calls Tryz.prog 79 #[.pointer (some ⟨P, 0, none⟩), .int .i64 ((d : Int) + 1)] w (ExPost w P T (exV m 0 1 (d + 1) .nil 0 l))) := fun m hm w o c l h hl => by
    have := IE m hm (d + 1) w P T o c l h hl
    rw [show ((d + 1 : Nat) : Int) = (d : Int) + 1 by omega] at this
    exact this
  have hd2 : d ≤ 100000 := by omega
  obtain ⟨M, hM⟩ : ∃ M, M = argV n d l := ⟨_, rfl⟩
  have HM : Hid (M = argV n d l) := hM
  have HG0 : Hid (∀ e w', ArPost w P T M e w' → ArPost w P T (argV n d l) e w') := fun e w' h => by rw [← hM]; exact h
  generalize hG : ArPost w P T (argV n d l) = G at *
  clear h hn hdd IE hM hG
  go_enter Tryz.func91, Tryz.ntmps91
  go_wp2_with (go_at_call 45; fail)
  refine (acc_at HA.out ⟨#[41]⟩ (by decide)).mono ?_
  have HI0 : Hid (∀ e w1, (((hd l).t = [41] ∧ e = Ending.returned (.bool true) ∧ PS w1 P T (o + 3) (c - 1) l.tail ∧ Gr P w w1 ∧ Ends l.tail ∧ l.tail.length < l.length) ∨ ((hd l).t ≠ [41] ∧ e = Ending.returned (.bool false) ∧ Below w.heap.size w w1)) → ∃ b : Bool, e = .returned (.bool (!b)) ∧ ArgI n d w P T l M b (.slice none 0 0) 0 w1) := by
    rintro e w1 (⟨hv, rfl, hp, hg, he, hlt⟩ | ⟨hv, rfl, hb⟩)
    · refine ⟨false, rfl, ⟨[], [], l.tail, _, _, rfl, by omega, World.ownsRow_nil _ _ _ _, by rw [chain, ExAt], hp, he, by omega, fun _ => ?_, fun h => by cases h⟩, hg⟩
      rw [HM.out]
      unfold argV
      rw [if_pos hv]
      rfl
    · refine ⟨true, rfl, ⟨[], [], l, _, _, rfl, by omega, World.ownsRow_nil _ _ _ _, by rw [chain, ExAt], HA.out.ps.below hb, HA.out.ends, Nat.le_refl _, (fun h => by cases h), fun _ => ⟨n, ?_, HN.out, Nat.le_refl _⟩⟩, gr_below hb⟩
      rw [HM.out]
      unfold argV
      rw [if_neg hv]
      cases exV n 7 0 d ce 0 l <;> rfl
  intro e w1 hpost
  obtain ⟨b, rfl, hI⟩ := HI0.out e w1 hpost
  have HI1 : Hid (ArgI n d w P T l M b (.slice none 0 0) 0 w1) := hI
  clear hpost hI HI0
  go_wp2_with fail
  go_loopw [5, 6] (fun v5 v6 wr => ∃ (b : Bool) (q : Option Addr) (k c : Nat), v6 = .bool b ∧ v5 = .slice q k c ∧ Hid (ArgI n d w P T l M b (.slice q k c) k wr)) (fun _ _ wr => plen P wr)
  case atStart => exact ⟨b, none, 0, 0, by cases b <;> rfl, rfl, HI1.out⟩
  case round =>
    clear HI1
    obtain ⟨b, q, k, cq, rfl, rfl, HI⟩ := hrel
    obtain ⟨⟨xs, ys, lc, o0, c0, hk, hkl, hown, hx, hp, he, hl, hbf, hbt⟩, hgr⟩ := HI.out
    have hkk : k ≤ 200000 := by have := HA.out.deep; omega
    cases b with
    | false =>
      have HX : Hid (ExAt (Fr w.heap.size) wr (chain xs) (.tuple ys.toArray)) := ExAt.mono (fun _ h _ => h.1) _ _ hx
      have HO : Hid (wr.ownsRow w.heap.size 84 1 (.slice q k cq) ys.length ys) := by rw [hk]; exact hown
      have HP : Hid (PS wr P T o0 c0 lc) := hp
      have HGR : Hid (Gr P w wr) := hgr
      have HMM : Hid (M = .ok (chain xs, lc)) := hbf rfl
      clear hk hkl hown hx hp he hl hbf hbt hgr HI
      go_wp2
      refine HG0.out _ _ ?_
      rw [HMM.out]
      exact ⟨⟨_, ys, o0, c0, rfl, HO.out, HX.out, HP.out⟩, HGR.out⟩
    | true =>
      obtain ⟨f, hM0, hf1, hf2⟩ := hbt rfl
      obtain ⟨f, rfl⟩ : ∃ f', f = f' + 1 := ⟨f - 1, by omega⟩
      have HM0 : Hid (M = cat xs (exV (f + 1) 7 0 d ce 0 lc)) := hM0
      have HPL : Hid (plen P wr = lc.length) := hp.plen
      have HA0 : Hid (At wr P T o0 c0 (d + 1) lc) := HA.out.go hgr hp he (by have := HA.out.deep; omega)
      have HF0 : Hid (12 * lc.length + 10 ≤ f + 1 ∧ f + 1 ≤ n ∧ lc.length ≤ l.length ∧ k + lc.length ≤ l.length + 1) := ⟨hf1, hf2, hl, hkl⟩
      have HX0 : Hid (ExAt (fun i => w.heap.size ≤ i ∧ some i ≠ (Value.slice q k cq).ownBlock) wr (chain xs) (.tuple ys.toArray)) := hx
      have HO0 : Hid (wr.ownsRow w.heap.size 84 1 (.slice q k cq) k ys) := hown
      have HK : Hid (ys.length = k) := hk
      have HGR : Hid (Gr P w wr) := hgr
      clear hk hkl hown hx hp he hl hbf hbt hgr HI hM0 hf1 hf2
      go_wp2_with (go_at_call 79; fail)
      refine (HE1.out f (by have := HF0.out; omega) _ _ _ lc HA0.out (by have := HF0.out; omega)).mono ?_
      intro e w2 hpost
      rcases hpost.parts with ⟨t1, l1, v1, o1, c1, hr, rfl, hx2, hp2, hg2⟩ | ⟨k1, p1, hr, ⟨a, rfl, ha⟩, hg2⟩
      rotate_left
      · refine ⟨rfl, HG0.out _ _ ?_⟩
        rw [HM0.out, exV, hr]
        exact ⟨⟨a, rfl, ha⟩, HGR.out.trans hg2⟩
      obtain ⟨vb, rfl⟩ := IsNd.ptr (ex_node f 0 1 (d + 1) .nil 0 lc t1 l1 (by omega) (by omega) hr) hx2
      obtain ⟨he1, hl1, hl1'⟩ := ex_ends f 0 1 (d + 1) .nil 0 lc t1 l1 (fun h => by omega) HA0.out.ends hr
      have hlt1 := hl1' (by decide) (by decide)
      have HR : Hid (exV f 0 1 (d + 1) .nil 0 lc = .ok (t1, l1)) := hr
      have HX2 : Hid (ExAt (Fr wr.heap.size) w2 t1 (.pointer (some ⟨vb, 0, none⟩))) := hx2
      have HX3 : Hid (ExAt (fun i => w.heap.size ≤ i ∧ some i ≠ (Value.slice q k cq).ownBlock) w2 (chain xs) (.tuple ys.toArray)) := ex_kept HA0.out.ps hg2 HX0.out
      have HP2 : Hid (PS w2 P T o1 c1 l1) := hp2
      have HG2 : Hid (Gr P w w2) := HGR.out.trans hg2
      have HO2 : Hid (w2.ownsRow w.heap.size 84 1 (.slice q k cq) k ys) := own_gr HA0.out.ps hg2 HO0.out
      have HE2 : Hid (Ends l1 ∧ l1.length < lc.length) := ⟨he1, hlt1⟩
      have HSz : Hid (wr.heap.size ≤ w2.heap.size) := hg2.size
      have HBlk : Hid (∀ i, (Value.slice q k cq).ownBlock = some i → w.heap.size ≤ i ∧ i < wr.heap.size) := fun i hi => HO0.out.lt i hi
      have HO3 : Hid ((w2.alloc (.cells #[.pointer (some ⟨vb, 0, none⟩)] 84)).ownsRow w.heap.size 84 1 (.slice q k cq) k ys) := HO2.out.alloc _
      have HN3 : Hid (∀ (i : Nat) (x : Value), ([.pointer (some ⟨vb, 0, none⟩)] : List Value)[i]? = some x → (w2.alloc (.cells #[.pointer (some ⟨vb, 0, none⟩)] 84)).cell? ((⟨w2.heap.size, 0, none⟩ : Addr).add i) = some x) := World.news_of_block (cs := #[.pointer (some ⟨vb, 0, none⟩)]) (t := 84) (fr := (0, 0)) (heap_alloc_last w2 _)
      have H13 : Hid (∀ u ∈ ([.pointer (some ⟨vb, 0, none⟩)] : List Value), u.oneCell' = true) := fun u hu => by simp at hu; rw [hu]; rfl
      have HZ3 : Hid (w.heap.size ≤ (w2.alloc (.cells #[.pointer (some ⟨vb, 0, none⟩)] 84)).heap.size) := by show _ ≤ _; have := HG2.out.size; simp; omega
      clear hpost hr hx2 hp2 hg2 he1 hl1 hl1' hlt1
      go_wp2_with (at_builtin; refine wpList_append_lies _ rfl _ _ 132 rfl w.heap.size 84 i0 _ 1 8 Tryz.underlying132 hi0 hz0 hs0 hb0 rfl (by decide) _ k _ rfl HO3.out ⟨w2.heap.size, 0, none⟩ 1 1 [.pointer (some ⟨vb, 0, none⟩)] rfl rfl HN3.out H13.out (by decide) (by unfold maxLen; omega) (by omega) HZ3.out (w2.heap.size + 1) (by simp) ?_)
      intro g4 cap4 w4 hown4 hgrow4 hg4 hlt4
      have hW3 : w2.heap.size < (w2.alloc (.cells #[.pointer (some ⟨vb, 0, none⟩)] 84)).heap.size := by simp
      have hsz4 := hgrow4.size
      have hsz2 : wr.heap.size ≤ w2.heap.size := HSz.out
      have hgw : w.heap.size ≤ g4 := by
        rcases hg4 with h | h
        · exact (HBlk.out g4 h).1
        · have := HG2.out.size; omega
      have hkp : ∀ (b : Nat) (cs : Array Value) (t : TypeId), some b ≠ (Value.slice q k cq).ownBlock → w2.heap[b]? = some (.cells cs t) → w4.heap[b]? = some (.cells cs t) := fun b cs t hb h => by
        have hlt := (Array.getElem?_eq_some_iff.1 h).1
        rw [hgrow4.block b (by omega) hb, row_eq_alloc hlt]
        exact h
      have hG4 : Gr P w w4 := by
        have h2 := HG2.out
        refine ⟨hgrow4.os.trans h2.os, hgrow4.tape.trans h2.tape, hgrow4.output.trans h2.output, by have := h2.size; omega, fun b hb hne => ?_⟩
        rw [hgrow4.block b (by have := h2.size; omega) (fun e => by have := (HBlk.out b e.symm).1; omega), row_eq_alloc (by have := h2.size; omega)]
        exact h2.block b hb hne
      have hP4 : PS w4 P T o1 c1 l1 := by
        have hPl := HA.out.ltP
        have hTl := HA.out.ltT
        refine HP2.out.of ?_ ?_
        · rw [hgrow4.block P (by have := HG2.out.size; omega) (fun e => by have := (HBlk.out P e.symm).1; omega), row_eq_alloc (by have := HG2.out.size; omega)]
        · rw [hgrow4.block T (by have := HG2.out.size; omega) (fun e => by have := (HBlk.out T e.symm).1; omega), row_eq_alloc (by have := HG2.out.size; omega)]
      have hX4 : ExAt (fun i => w.heap.size ≤ i ∧ some i ≠ (Value.slice (some ⟨g4, 0, none⟩) (k + 1) cap4).ownBlock) w4 (chain (xs ++ [t1])) (.tuple (ys ++ [Value.pointer (some ⟨vb, 0, none⟩)]).toArray) := by
        have hA : ExAt (fun i => w.heap.size ≤ i ∧ some i ≠ (Value.slice q k cq).ownBlock ∧ i < w2.heap.size) w2 (chain xs) (.tuple ys.toArray) := ExAt.mono (fun i h hi => ⟨h.1, h.2, hi⟩) _ _ HX3.out
        have hB : ExAt (fun i => w.heap.size ≤ i ∧ some i ≠ (Value.slice q k cq).ownBlock ∧ i < w2.heap.size) w2 t1 (.pointer (some ⟨vb, 0, none⟩)) := ExAt.mono (fun i h hi => ⟨by have : wr.heap.size ≤ i := h; have := HGR.out.size; omega, fun e => by have := (HBlk.out i e.symm).2; have : wr.heap.size ≤ i := h; omega, hi⟩) _ _ HX2.out
        have hC := chain_snoc hB xs ys hA
        refine ExAt.mono (fun i h _ => ⟨h.1, fun e => ?_⟩) _ _ (ExAt.kept (fun b cs t hb _ h => hkp b cs t hb.2.1 h) _ _ hC)
        have e' : i = g4 := by injection e
        rcases hg4 with hh | hh
        · exact h.2.1 (by rw [hh, e'])
        · have := h.2.2; omega
      have HX4 : Hid (ExAt (fun i => w.heap.size ≤ i ∧ some i ≠ (Value.slice (some ⟨g4, 0, none⟩) (k + 1) cap4).ownBlock) w4 (chain (xs ++ [t1])) (.tuple (ys ++ [Value.pointer (some ⟨vb, 0, none⟩)]).toArray)) := hX4
      have HG4 : Hid (Gr P w w4) := hG4
      have HA4 : Hid (At w4 P T o1 c1 (d + 1) l1) := HA.out.go hG4 hP4 HE2.out.1 (by have := HA0.out.deep; have := HE2.out.2; omega)
      have HO4 : Hid (w4.ownsRow w.heap.size 84 1 (.slice (some ⟨g4, 0, none⟩) (k + 1) cap4) (k + 1) (ys ++ [Value.pointer (some ⟨vb, 0, none⟩)])) := hown4
      clear hown4 hgrow4 hg4 hlt4 hW3 hsz4 hsz2 hgw hkp hG4 hP4 hX4 HO3 HN3 H13 HZ3 HX2 HX3 HO2 HBlk
      go_wp2_with (go_at_call 46; fail)
      refine (more_at HA4.out).mono ?_
      rintro e w5 (⟨b1, hv, rfl, hp, hg, he, hlt⟩ | ⟨hv1, hv2, ⟨a, rfl, ha⟩, hg⟩)
      rotate_left
      · refine ⟨rfl, HG0.out _ _ ?_⟩
        rw [HM0.out, exV, HR.out]
        show ArPost w P T (cat xs (if (hd l1).t = [44] then _ else bnd (needV [41] l1) _)) _ _
        unfold needV
        rw [if_neg hv1, if_neg hv2]
        exact ⟨⟨a, rfl, ha⟩, HG4.out.trans hg⟩
      have HI5 : Hid (ArgI n d w P T l M b1 (.slice (some ⟨g4, 0, none⟩) (k + 1) cap4) (k + 1) w5) := by
        refine ⟨⟨xs ++ [t1], ys ++ [Value.pointer (some ⟨vb, 0, none⟩)], l1.tail, _, _, by simp [HK.out], ?_, own_gr HA4.out.ps hg HO4.out, ex_kept HA4.out.ps hg HX4.out, hp, he, ?_, ?_, ?_⟩, HG4.out.trans hg⟩
        · have := HF0.out; have := HE2.out.2; omega
        · have := HF0.out; have := HE2.out.2; omega
        · rintro rfl
          rw [HM0.out, exV, HR.out]
          have hv' : (hd l1).t = [41] := hv
          show cat xs (if (hd l1).t = [44] then _ else bnd (needV [41] l1) _) = _
          unfold needV
          rw [if_neg (by rw [hv']; decide), if_pos hv']
          show cat xs (.ok (cc t1 ce, l1.tail)) = _
          rw [← foldr_ce, List.foldr_append]
          rfl
        · rintro rfl
          refine ⟨f, ?_, ?_, ?_⟩
          · rw [HM0.out, exV, HR.out]
            have hv' : (hd l1).t = [44] := hv
            show cat xs (if (hd l1).t = [44] then bnd (exV f 7 0 d ce 0 l1.tail) _ else _) = _
            rw [if_pos hv']
            cases exV f 7 0 d ce 0 l1.tail with
            | error e => rfl
            | ok r => obtain ⟨g, l2⟩ := r; exact (cat_snoc xs t1 g l2).symm
          · have := HF0.out; have := HE2.out.2; omega
          · have := HF0.out; omega
      have HPL5 : Hid (plen P w5 < plen P wr) := by
        show _ < _
        rw [HPL.out, hp.plen]
        have := HE2.out.2
        omega
      clear hv hp hg he hlt
      go_wp2
      exact ⟨⟨b1, _, _, _, rfl, rfl, HI5.out⟩, HPL5.out⟩
end Go.Proofs.YtpakgaegckkmnaaGreatDoor
