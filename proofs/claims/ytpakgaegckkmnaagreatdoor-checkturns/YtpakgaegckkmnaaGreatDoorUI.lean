/- program walked. -/
import Derived.Test.YtpakgaegckkmnaaGreatDoorUH
namespace Go.Proofs.YtpakgaegckkmnaaGreatDoor
set_option linter.unusedVariables false
set_option linter.unusedSimpArgs false
open Go Go.RowKit

theorem info41 : (Tryz.prog.info? 41).map (fun i => (i.zero, i.size, i.bytes)) = some (some (.agg #[.string ⟨#[]⟩, .int .i64 0, .slice none 0 0, .slice none 0 0]), 4, 72) := by kernel_rfl
/-- What program leaves. -/
def GPost (w : World) (P T : Nat) (r : R Tr) (e : Ending) (w' : World) : Prop :=
  (∃ t l' v n cs, r = .ok (t, l') ∧ e = .returned v ∧ w'.ownsRow w.heap.size 41 4 v n cs ∧ FnAt (Fr w.heap.size) w' t cs ∧ Gr P w w') ∨ (∃ k p, r = .error (k, p) ∧ Threw k p e w' ∧ Gr P w w')
/-- In the loop of program. -/
structure PrgI (w : World) (P T : Nat) (l : List Tok) (M : R Tr) (v : Value) (k : Nat) (wr : World) : Prop where
  at' : ∃ xs ys lc o' c' f, k ≤ 12 ∧ wr.ownsRow w.heap.size 41 4 v k ys ∧ FnAt (fun i => w.heap.size ≤ i ∧ some i ≠ v.ownBlock) wr (chain xs) ys ∧ PS wr P T o' c' lc ∧ Ends lc ∧ lc.length ≤ l.length ∧
    M = cat xs (progV f k lc) ∧ lc.length + 1 ≤ f
  gr : Gr P w wr

set_option maxRecDepth 100000 in
set_option maxHeartbeats 8000000 in
theorem program_walk (w : World) (P T o c : Nat) (l : List Tok) (h : At w P T o c 0 l) :
    Calls Tryz.prog 16 #[.pointer (some ⟨P, 0, none⟩)] w (GPost w P T (progV (l.length + 1) 0 l)) := by
  obtain ⟨i0, hi0, hz0, hs0, hb0⟩ := info_parts info41
  have HA : Hid (At w P T o c 0 l) := h
  obtain ⟨M, hM⟩ : ∃ M, M = progV (l.length + 1) 0 l := ⟨_, rfl⟩
  have HI1 : Hid (PrgI w P T l M (.slice none 0 0) 0 w) := by
    refine ⟨⟨[], [], l, o, c, l.length + 1, by omega, World.ownsRow_nil _ _ _ _, by rw [chain, FnAt], h.ps, h.ends, Nat.le_refl _, ?_, Nat.le_refl _⟩, Gr.refl _ _⟩
    rw [hM]
    cases progV (l.length + 1) 0 l <;> rfl
  rw [← hM]
  have HG0 : Hid (∀ e w', GPost w P T M e w' → GPost w P T M e w') := fun _ _ h => h
  generalize hG : GPost w P T M = G at *
  clear HG0
  have HG0 : Hid (∀ e w', GPost w P T M e w' → G e w') := fun e w' h => by rw [← hG]; exact h
  have h0 := fld0
  clear h hM hG
  go_enter Tryz.func16, Tryz.ntmps16
  go_wp2_with fail
  go_loopw [3] (fun v3 wr => ∃ (q : Option Addr) (k c : Nat), v3 = .slice q k c ∧ Hid (PrgI w P T l M (.slice q k c) k wr)) (fun _ wr => plen P wr)
  case atStart => exact ⟨none, 0, 0, rfl, HI1.out⟩
  case round =>
    clear HI1
    obtain ⟨q, k, cq, rfl, HI⟩ := hrel
    obtain ⟨⟨xs, ys, lc, o0, c0, f, hk12, hown, hx, hp, he, hl, hM0, hf1⟩, hgr⟩ := HI.out
    obtain ⟨f, rfl⟩ : ∃ f', f = f' + 1 := ⟨f - 1, by omega⟩
    have HM0 : Hid (M = cat xs (progV (f + 1) k lc)) := hM0
    have HPL : Hid (plen P wr = lc.length) := hp.plen
    have HA0 : Hid (At wr P T o0 c0 0 lc) := HA.out.go hgr hp he (by have := HA.out.deep; omega)
    have HF0 : Hid (lc.length + 1 ≤ f + 1 ∧ lc.length ≤ l.length) := ⟨hf1, hl⟩
    have HX0 : Hid (FnAt (fun i => w.heap.size ≤ i ∧ some i ≠ (Value.slice q k cq).ownBlock) wr (chain xs) ys) := hx
    have HO0 : Hid (wr.ownsRow w.heap.size 41 4 (.slice q k cq) k ys) := hown
    have HGR : Hid (Gr P w wr) := hgr
    clear hown hx hp he hl hgr HI hM0 hf1
    obtain ⟨y, hy, hyt⟩ := str_y (hd lc).t
    have HY : Hid (str (hd lc).t = .string y) := hy
    clear hy hyt
    go_wp2_with (go_at_call 28; fail)
    refine (look_at HA0.out y HY.out wr (Below.refl _ _)).mono ?_
    rintro e w3 ⟨rfl, hb⟩
    have hg : Gr P wr w3 := gr_below hb
    have HX3 : Hid (FnAt (fun i => w.heap.size ≤ i ∧ some i ≠ (Value.slice q k cq).ownBlock) w3 (chain xs) ys) := FnAt.kept (Keeps.gr HA0.out.ps hg) _ _ HX0.out
    have HO3 : Hid (w3.ownsRow w.heap.size 41 4 (.slice q k cq) k ys) := (Keeps.gr (S := fun _ => True) HA0.out.ps hg).row (by decide) HO0.out (fun _ _ => trivial)
    have HA3 : Hid (At w3 P T o0 c0 0 lc) := HA0.out.below hb
    have HG3 : Hid (Gr P w w3) := HGR.out.trans hg
    clear hb hg HX0 HO0 HGR
    by_cases hk3 : (hd lc).k = 3
    · have bk : (((hd lc).k : Int) != 3) = false := by rw [hk3]; rfl
      have HK3 : Hid ((hd lc).k = 3) := hk3
      clear hk3
      generalize (((hd lc).k : Nat) : Int) = kd at *
      go_wp2
      refine HG0.out _ _ (.inl ⟨chain xs, lc, _, k, ys, ?_, rfl, HO3.out, FnAt.mono (fun _ h _ => h.1) _ _ HX3.out, HG3.out⟩)
      rw [HM0.out, progV, if_pos HK3.out, ← foldr_ce]
      rfl
    have bk : (((hd lc).k : Int) != 3) = true := by simp; omega
    have HK3 : Hid (¬ (hd lc).k = 3) := hk3
    clear hk3
    generalize (((hd lc).k : Nat) : Int) = kd at *
    by_cases h12 : k = 12
    · subst h12
      go_wp2_with (go_at_call 29; fail)
      refine (fault_any w3 P T o0 c0 (hd lc) lc.tail HA3.out.psc 4).mono ?_
      rintro e x9 ⟨⟨a, rfl, ha⟩, hb⟩
      have HA9 : Hid (x9.heap[a]? = some (.cells #[.int .i64 4, .int .i64 ((hd lc).p : Int)] 78)) := ha
      have HG9 : Hid (Gr P w x9) := HG3.out.trans (gr_below hb)
      clear ha hb
      go_wp2
      refine ⟨rfl, HG0.out _ _ (.inr ⟨4, (hd lc).p, ?_, ⟨a, rfl, HA9.out⟩, HG9.out⟩)⟩
      rw [HM0.out, progV, if_neg HK3.out, if_pos rfl]
      rfl
    have b12 : ((k : Int) == 12) = false := by simp; omega
    have HK12 : Hid (¬ k = 12) := h12
    clear h12
    go_wp2_with (go_at_call 30; fail)
    refine (function_walk 0 w3 P T o0 c0 lc HA3.out).mono ?_
    rintro e w4 (⟨t, l1, cs, o1, c1, hr, rfl, hx, hp, hg⟩ | ⟨k1, p1, hr, ⟨b, rfl, hb⟩, hg⟩)
    rotate_left
    · refine ⟨rfl, HG0.out _ _ (.inr ⟨k1, p1, ?_, ⟨b, rfl, hb⟩, HG3.out.trans hg⟩)⟩
      rw [HM0.out, progV, if_neg HK3.out, if_neg HK12.out, hr]
      rfl
    obtain ⟨y0, n1, s2, m2, c2, s3, m3, c3, rfl⟩ := fn_cells hx
    obtain ⟨he1, hlt1⟩ := fn_tail hr HA0.out.ends
    have HR : Hid (fnV lc = .ok (t, l1)) := hr
    have HX4 : Hid (FnAt (Fr w3.heap.size) w4 (cc t ce) [.string y0, .int .i64 n1, .slice s2 m2 c2, .slice s3 m3 c3]) := hx
    have HX5 : Hid (FnAt (fun i => w.heap.size ≤ i ∧ some i ≠ (Value.slice q k cq).ownBlock) w4 (chain xs) ys) := FnAt.kept (Keeps.gr HA3.out.ps hg) _ _ HX3.out
    have HP4 : Hid (PS w4 P T o1 c1 l1) := hp
    have HG4 : Hid (Gr P w w4) := HG3.out.trans hg
    have HSz : Hid (w3.heap.size ≤ w4.heap.size) := hg.size
    have HE4 : Hid (Ends l1 ∧ l1.length < lc.length) := ⟨he1, hlt1⟩
    have HBlk : Hid (∀ i, (Value.slice q k cq).ownBlock = some i → w.heap.size ≤ i ∧ i < w3.heap.size) := fun i hi => HO3.out.lt i hi
    have HO4 : Hid ((w4.alloc (.cells #[.string y0, .int .i64 n1, .slice s2 m2 c2, .slice s3 m3 c3] 41)).ownsRow w.heap.size 41 4 (.slice q k cq) k ys) := ((Keeps.gr (S := fun _ => True) HA3.out.ps hg).row (by decide) HO3.out (fun _ _ => trivial)).alloc _
    have HN3 : Hid (∀ (i : Nat) (x : Value), ([.string y0, .int .i64 n1, .slice s2 m2 c2, .slice s3 m3 c3] : List Value)[i]? = some x → (w4.alloc (.cells #[.string y0, .int .i64 n1, .slice s2 m2 c2, .slice s3 m3 c3] 41)).cell? ((⟨w4.heap.size, 0, none⟩ : Addr).add i) = some x) := World.news_of_block (cs := #[.string y0, .int .i64 n1, .slice s2 m2 c2, .slice s3 m3 c3]) (t := 41) (fr := (0, 0)) (heap_alloc_last w4 _)
    have H13 : Hid (∀ u ∈ ([.string y0, .int .i64 n1, .slice s2 m2 c2, .slice s3 m3 c3] : List Value), u.oneCell' = true) := fun u hu => by simp at hu; rcases hu with rfl | rfl | rfl | rfl <;> rfl
    have HZ3 : Hid (w.heap.size ≤ (w4.alloc (.cells #[.string y0, .int .i64 n1, .slice s2 m2 c2, .slice s3 m3 c3] 41)).heap.size) := by show _ ≤ _; have := HG4.out.size; simp; omega
    clear hr hx hp hg he1 hlt1 b12 bk
    go_wp2_with (at_builtin; refine wpList_append_lies _ rfl _ _ 23 rfl w.heap.size 41 i0 _ 4 72 Tryz.underlying23 hi0 hz0 hs0 hb0 rfl (by decide) _ k _ rfl HO4.out ⟨w4.heap.size, 0, none⟩ 1 1 [.string y0, .int .i64 n1, .slice s2 m2 c2, .slice s3 m3 c3] rfl rfl HN3.out H13.out (by decide) (by unfold maxLen; omega) (by omega) HZ3.out (w4.heap.size + 1) (by simp) ?_)
    intro g5 cap5 w5 hown5 hgrow5 hg5 hlt5
    obtain ⟨hG5, hP5, hK5⟩ := grown_app HG4.out hgrow5 (fun i hi => (HBlk.out i hi).1) HA.out.ltP HA.out.ltT HP4.out
    have HX6 : Hid (FnAt (fun i => w.heap.size ≤ i ∧ some i ≠ (Value.slice (some ⟨g5, 0, none⟩) (k + 1) cap5).ownBlock) w5 (chain (xs ++ [t])) (ys ++ [.string y0, .int .i64 n1, .slice s2 m2 c2, .slice s3 m3 c3])) := by
      have hA : FnAt (fun i => w.heap.size ≤ i ∧ some i ≠ (Value.slice q k cq).ownBlock ∧ i < w4.heap.size) w4 (chain xs) ys := FnAt.mono (fun i h hi => ⟨h.1, h.2, hi⟩) _ _ HX5.out
      have hB : FnAt (fun i => w.heap.size ≤ i ∧ some i ≠ (Value.slice q k cq).ownBlock ∧ i < w4.heap.size) w4 (cc t ce) [.string y0, .int .i64 n1, .slice s2 m2 c2, .slice s3 m3 c3] := FnAt.mono (fun i h hi => ⟨by have : w3.heap.size ≤ i := h; have := HG3.out.size; omega, fun e => by have := (HBlk.out i e.symm).2; have : w3.heap.size ≤ i := h; omega, hi⟩) _ _ HX4.out
      have hC := fns_snoc hB xs ys hA
      refine FnAt.mono (fun i h _ => ⟨h.1, fun e => ?_⟩) _ _ (FnAt.kept (hK5.mono fun b hb => hb.2.1) _ _ hC)
      have e' : i = g5 := by injection e
      rcases hg5 with hh | hh
      · exact h.2.1 (by rw [hh, e'])
      · have := h.2.2; omega
    have HI5 : Hid (PrgI w P T l M (.slice (some ⟨g5, 0, none⟩) (k + 1) cap5) (k + 1) w5) := by
      refine ⟨⟨xs ++ [t], _, l1, o1, c1, f, ?_, hown5, HX6.out, hP5, HE4.out.1, ?_, ?_, ?_⟩, hG5⟩
      · have := HK12.out; omega
      · have := HF0.out; have := HE4.out.2; omega
      · rw [HM0.out, progV, if_neg HK3.out, if_neg HK12.out, HR.out]
        show cat xs (bnd (progV f (k + 1) l1) _) = _
        cases progV f (k + 1) l1 with
        | error e => rfl
        | ok r => obtain ⟨g, l2⟩ := r; exact (cat_snoc xs t g l2).symm
      · have := HF0.out; have := HE4.out.2; omega
    have HPL5 : Hid (plen P w5 < plen P wr) := by
      show _ < _
      rw [HPL.out, hP5.plen]
      exact HE4.out.2
    clear hown5 hgrow5 hg5 hlt5 hG5 hP5 hK5 HX6 HN3 H13 HZ3 HO4 HX4 HX5
    go_wp2
    exact ⟨⟨_, _, _, rfl, HI5.out⟩, HPL5.out⟩
end Go.Proofs.YtpakgaegckkmnaaGreatDoor
