/- one: a leaf, and what stands in [ and ] behind it. -/
import Derived.Test.YtpakgaegckkmnaaGreatDoorTH
import Derived.Test.YtpakgaegckkmnaaGreatDoorTE
namespace Go.Proofs.YtpakgaegckkmnaaGreatDoor
set_option linter.unusedVariables false
set_option linter.unusedSimpArgs false
open Go Go.RowKit

def LeafC (n : Nat) : Prop := ∀ (d : Nat) (w : World) (P T o c : Nat) (l : List Tok), At w P T o c d l → 12 * l.length + 1 ≤ n → Calls Tryz.prog 110 #[.pointer (some ⟨P, 0, none⟩), .int .i64 (d : Int)] w (ExPost w P T (exV n 4 0 d .nil 0 l))
def IdxC (n : Nat) : Prop := ∀ m, m ≤ n → ∀ (d : Nat) (w : World) (P T o c : Nat) (l : List Tok), At w P T o c (d + 1) l → 12 * l.length + 10 ≤ m → Calls Tryz.prog 92 #[.pointer (some ⟨P, 0, none⟩), .int .i64 (d : Int)] w (ExPost w P T (exV m 6 0 d .nil 0 l))
/-- How many tokens are left, by the parser's own cell. -/
def plen (P : Nat) (w : World) : Nat :=
  match w.cell? ⟨P, 0, none⟩ with
  | some (.slice _ n _) => n
  | _ => 0
theorem PS.plen {w : World} {P T o c : Nat} {l : List Tok} (h : PS w P T o c l) : plen P w = l.length := by
  unfold Go.Proofs.YtpakgaegckkmnaaGreatDoor.plen
  rw [cell_at (i := 0) h.own rfl]
  rfl
/-- In the loop over [. -/
structure OneI (n d : Nat) (w : World) (P T q : Nat) (p : Nat) (l : List Tok) (M : R Tr) (tc : Array Value) (v : Value) (wr : World) : Prop where
  at' : ∃ f t lc o' c', exV f 3 0 d t p lc = M ∧ 12 * lc.length ≤ f ∧ f ≤ n ∧ IsNd t ∧ ExAt (Fr w.heap.size) wr t v ∧ PS wr P T o' c' lc ∧ Ends lc ∧ lc.length ≤ l.length
  tok : wr.heap[q]? = some (.cells tc 75)
  gr : Gr P w wr
theorem item_new {S : Nat → Prop} {w : World} {p : Int} {t u : Tr} {v z : Value} (hs : S w.heap.size) (h : ExAt S w t v) (g : ExAt S w u z) : ExAt S (w.alloc (.cells #[.int .i64 8, .int .i64 p, .int .i64 0, .string ⟨#[]⟩, .string ⟨#[]⟩, v, z, .slice none 0 0] 134)) (nd 8 p 0 [] [] t u ce) (.pointer (some ⟨w.heap.size, 0, none⟩)) := node_new hs h g

set_option maxRecDepth 100000 in
set_option maxHeartbeats 8000000 in
theorem one_leaf (n : Nat) (IL : LeafC n) (II : IdxC n) (d : Nat) (w : World) (P T o c : Nat) (l : List Tok) (h : At w P T o c d l) (hk : d ≤ 12 ∨ (hd l).k = 3) (hn : 12 * l.length + 2 ≤ n + 1) (h1 : (hd l).t ≠ [45]) (h2 : (hd l).t ≠ [33]) :
    Calls Tryz.prog 102 #[.pointer (some ⟨P, 0, none⟩), .int .i64 (d : Int)] w (ExPost w P T (exV (n + 1) 2 0 d .nil 0 l)) := by
  obtain ⟨y, hy, hyt⟩ := str_y (hd l).t
  have HF : Hid (∀ W, Below w.heap.size w W → Calls Tryz.prog 28 #[.pointer (some ⟨P, 0, none⟩)] W fun e w' => e = .returned (.agg #[.int .i64 ((hd l).k : Int), .string y, .int .i64 ((hd l).p : Int)]) ∧ Below w.heap.size w w') := fun W hb => look_at h y hy W hb
  have HB : Hid (Calls Tryz.prog 62 #[.pointer (some ⟨P, 0, none⟩), .int .i64 (d : Int)] w fun e w' => e = .returned (.tuple #[]) ∧ Below w.heap.size w w') := bound_at h hk
  have HNo1 : Hid (∀ W, Below w.heap.size w W → Calls Tryz.prog 45 #[.pointer (some ⟨P, 0, none⟩), .string ⟨#[45]⟩] W fun e w' => e = .returned (.bool false) ∧ Below w.heap.size w w' ∧ Gr P W w') := fun W hb => pass_at2 h ⟨#[45]⟩ h1 W hb
  have HNo2 : Hid (∀ W, Below w.heap.size w W → Calls Tryz.prog 45 #[.pointer (some ⟨P, 0, none⟩), .string ⟨#[33]⟩] W fun e w' => e = .returned (.bool false) ∧ Below w.heap.size w w' ∧ Gr P W w') := fun W hb => pass_at2 h ⟨#[33]⟩ h2 W hb
  have HA : Hid (At w P T o c d l) := h
  have HN : Hid (12 * l.length + 2 ≤ n + 1) := hn
  have HIL : Hid (LeafC n) := IL
  have HII : Hid (IdxC n) := II
  have HM : Hid (exV (n + 1) 2 0 d .nil 0 l = bnd (exV n 4 0 d .nil 0 l) fun y l1 => exV n 3 0 d y (hd l).p l1) := by
    show _ = _
    rw [exV]
    unfold boundV
    rw [if_neg (by omega)]
    show (if (hd l).t = [45] ∨ (hd l).t = [33] then _ else _) = _
    rw [if_neg (fun e => e.elim h1 h2)]
  have HG0 : Hid (∀ e w', ExPost w P T (exV (n + 1) 2 0 d .nil 0 l) e w' → ExPost w P T (exV (n + 1) 2 0 d .nil 0 l) e w') := fun _ _ h => h
  generalize hG : ExPost w P T (exV (n + 1) 2 0 d .nil 0 l) = G at *
  clear HG0
  have HG0 : Hid (∀ e w', ExPost w P T (exV (n + 1) 2 0 d .nil 0 l) e w' → G e w') := fun e w' h => by rw [← hG]; exact h
  clear h hk hn hy hyt h1 h2 IL II hG
  go_enter Tryz.func102, Tryz.ntmps102
  go_wp2_with (go_at_call 62; fail)
  refine HB.out.mono ?_
  rintro e w1 ⟨rfl, hb⟩
  have HB1 : Hid (Below w.heap.size w w1) := hb
  clear hb
  go_wp2_with (go_at_call 28; fail)
  refine (HF.out _ HB1.out).mono ?_
  rintro e w2 ⟨rfl, hb⟩
  have HB2 : Hid (Below w.heap.size w w2) := hb
  clear hb
  go_wp2_with (go_at_call 45; fail)
  obtain ⟨tc, htc⟩ : ∃ tc : Array Value, tc = #[.int .i64 ((hd l).k : Int), .string y, .int .i64 ((hd l).p : Int)] := ⟨_, rfl⟩
  have HTC : Hid (tc[2]? = some (.int .i64 ((hd l).p : Int))) := by show _ = _; rw [htc]; rfl
  obtain ⟨W2, hW2⟩ : ∃ W2, W2 = w2.alloc (.cells #[.int .i64 ((hd l).k : Int), .string y, .int .i64 ((hd l).p : Int)] 75) := ⟨_, rfl⟩
  obtain ⟨q, hq⟩ : ∃ q, q = w2.heap.size := ⟨_, rfl⟩
  have HQ2 : Hid (W2.heap[q]? = some (.cells tc 75)) := by rw [hW2, hq, htc]; exact heap_alloc_last _ _
  have HNE : Hid (q ≠ P) := fun e => by have := HB2.out.size; have := HA.out.ltP; omega
  have HB3 : Hid (Below w.heap.size w W2) := by rw [hW2]; exact HB2.out.alloc HB2.out.size _
  rw [← hW2, ← hq]
  clear hW2 hq HB2 htc
  refine (HNo1.out _ HB3.out).mono ?_
  rintro e W3 ⟨rfl, hb, hg⟩
  have HQ3 : Hid (W3.heap[q]? = some (.cells tc 75)) := hg.blk HQ2.out HNE.out
  have HB4 : Hid (Below w.heap.size w W3) := hb
  clear hb hg HQ2 HB3
  go_wp2_with (go_at_call 45; fail)
  refine (HNo2.out _ HB4.out).mono ?_
  rintro e W4 ⟨rfl, hb, hg⟩
  have HQ4 : Hid (W4.heap[q]? = some (.cells tc 75)) := hg.blk HQ3.out HNE.out
  have HB5 : Hid (Below w.heap.size w W4) := hb
  clear hb hg HQ3 HB4
  go_wp2_with (go_at_call 110; fail)
  refine (HIL.out d W4 P T _ _ l (HA.out.below HB5.out) (by have := HN.out; omega)).mono ?_
  intro e w5 hpost
  rcases hpost.parts with ⟨t, l', v, o', c', hr, rfl, hx5, hp5, hg5⟩ | ⟨k, p, hr, ⟨a, rfl, ha⟩, hg5⟩
  rotate_left
  · refine ⟨rfl, HG0.out _ _ ?_⟩
    rw [HM.out, hr]
    exact ⟨⟨a, rfl, ha⟩, (gr_below HB5.out).trans hg5⟩
  have hnd := ex_node n 4 0 d .nil 0 l t l' (by omega) (by omega) hr
  obtain ⟨vb, rfl⟩ := IsNd.ptr hnd hx5
  obtain ⟨M, hMM⟩ : ∃ M, M = exV n 3 0 d t (hd l).p l' := ⟨_, rfl⟩
  obtain ⟨he5, hl5, _⟩ := ex_ends n 4 0 d .nil 0 l t l' (fun h => by omega) HA.out.ends hr
  have HI0 : Hid (OneI n d w P T q (hd l).p l M tc (.pointer (some ⟨vb, 0, none⟩)) w5) :=
    ⟨⟨n, t, l', o', c', hMM.symm, by have := HN.out; omega, Nat.le_refl _, hnd, hx5.old HB5.out.size, hp5, he5, hl5⟩, hg5.blk HQ4.out HNE.out, (gr_below HB5.out).trans hg5⟩
  have HMM : Hid (exV (n + 1) 2 0 d .nil 0 l = M) := by
    show _ = _
    rw [HM.out, hr, hMM]
    rfl
  clear hpost hr hx5 hp5 hg5 hMM he5 hl5 hnd HQ4 HB5 HM
  go_wp2_with fail
  go_loopw [6] (fun v wr => ∃ vb : Nat, v = .pointer (some ⟨vb, 0, none⟩) ∧ Hid (OneI n d w P T q (hd l).p l M tc (.pointer (some ⟨vb, 0, none⟩)) wr)) (fun _ wr => plen P wr)
  case atStart => exact ⟨vb, rfl, HI0.out⟩
  case round =>
    obtain ⟨b0, rfl, HI⟩ := hrel
    obtain ⟨⟨f, t0, lc, o0, c0, hM0, hf1, hf2, hnd0, hx0, hp0, he0, hl0⟩, htok, hgr⟩ := HI.out
    obtain ⟨f, rfl⟩ : ∃ f', f = f' + 1 := ⟨f - 1, by have := he0.pos; omega⟩
    have HM0 : Hid (exV (f + 1) 3 0 d t0 (hd l).p lc = M) := hM0
    have HPL : Hid (plen P wr = lc.length) := hp0.plen
    have HA0 : Hid (At wr P T o0 c0 d lc) := HA.out.go hgr hp0 he0 (by have := HA.out.deep; omega)
    have HF0 : Hid (12 * lc.length ≤ f + 1 ∧ f + 1 ≤ n ∧ lc.length ≤ l.length) := ⟨hf1, hf2, hl0⟩
    have HX0 : Hid (ExAt (Fr w.heap.size) wr t0 (.pointer (some ⟨b0, 0, none⟩))) := hx0
    have HND0 : Hid (IsNd t0) := hnd0
    have HTK : Hid (wr.heap[q]? = some (.cells tc 75)) := htok
    have HGR : Hid (Gr P w wr) := hgr
    clear hM0 hf1 hf2 hnd0 hx0 hp0 he0 hl0 htok hgr HI HI0
    go_wp2_with (go_at_call 45; fail)
    refine (acc_at HA0.out ⟨#[91]⟩ (by decide)).mono ?_
    rintro e w6 (⟨hv, rfl, hp, hg, he, hlt⟩ | ⟨hv, rfl, hb⟩)
    rotate_left
    · have HX6 : Hid (ExAt (Fr w.heap.size) w6 t0 (.pointer (some ⟨b0, 0, none⟩))) := ex_kept HA0.out.ps (gr_below hb) HX0.out
      have HP6 : Hid (PS w6 P T o0 c0 lc) := HA0.out.ps.below hb
      have HG6 : Hid (Gr P w w6) := HGR.out.trans (gr_below hb)
      have HV6 : Hid (¬ (hd lc).t = [91]) := hv
      clear hb hv
      go_wp2
      refine HG0.out _ _ ?_
      rw [HMM.out, ← HM0.out, exV, if_neg HV6.out]
      exact ⟨⟨_, _, _, rfl, HX6.out, HP6.out⟩, HG6.out⟩
    have htk := hg.blk HTK.out HNE.out
    have HTK6 : Hid (w6.drew.heap[q]? = some (.cells tc 75)) := htk
    have hc1 : w6.cell? ⟨q, 2, none⟩ = some (.int .i64 ((hd l).p : Int)) := cell_at htk HTC.out
    have HX6 : Hid (ExAt (Fr w.heap.size) w6.drew t0 (.pointer (some ⟨b0, 0, none⟩))) := ex_kept HA0.out.ps (hg.trans (gr_below (Below.refl _ _).drew)) HX0.out
    have HGd : Hid (Gr P wr w6.drew) := hg.trans (gr_below (Below.refl _ _).drew)
    have HA6 : Hid (At w6.drew P T (o0 + 3) (c0 - 1) (d + 1) lc.tail) := HA0.out.go HGd.out (hp.below (Below.refl _ _).drew) he (by have := HA0.out.deep; omega)
    have HV6 : Hid ((hd lc).t = [91]) := hv
    have HL6 : Hid (12 * lc.tail.length + 10 ≤ f) := by show _ ≤ _; have := HF0.out; omega
    have HL7 : Hid (lc.tail.length < lc.length) := hlt
    clear htk hv hp hg he hlt
    go_wp2_with fail
    go_region_with (go_at_call 92; refine (HII.out f (by have := HF0.out; omega) d _ P T _ _ lc.tail HA6.out HL6.out).mono ?_; intro e w7 hpost; rcases hpost.parts with ⟨t1, l1, v1, o1, c1, hr, rfl, hx7, hp7, hg7⟩ | ⟨k, p, hr, ⟨a, rfl, ha⟩, hg7⟩; rotate_left; exact (by refine ⟨rfl, HG0.out _ _ ?_⟩; rw [HMM.out, ← HM0.out, exV, if_pos HV6.out, hr]; exact ⟨⟨a, rfl, ha⟩, HGR.out.trans (HGd.out.trans hg7)⟩); obtain ⟨vb1, rfl⟩ := IsNd.ptr (ex_node f 6 0 d .nil 0 lc.tail t1 l1 (by omega) (by omega) hr) hx7; have hQ7 := hg7.blk HTK6.out HNE.out; have hc2 : w7.cell? ⟨q, 2, none⟩ = some (.int .i64 ((hd l).p : Int)) := cell_at hQ7 HTC.out; have HQ7 : Hid (w7.heap[q]? = some (.cells tc 75)) := hQ7; have HR : Hid (exV f 6 0 d .nil 0 lc.tail = .ok (t1, l1)) := hr; have HX7 : Hid (ExAt (Fr w.heap.size) w7 t1 (.pointer (some ⟨vb1, 0, none⟩))) := hx7.old (HGR.out.trans HGd.out).size; have HX8 : Hid (ExAt (Fr w.heap.size) w7 t0 (.pointer (some ⟨b0, 0, none⟩))) := ex_kept HA6.out.ps hg7 HX6.out; have HP7 : Hid (PS w7 P T o1 c1 l1) := hp7; have HG7 : Hid (Gr P w w7) := HGR.out.trans (HGd.out.trans hg7); clear hpost hr hx7 hp7 hg7 hQ7)
    all_goals
      go_wp2
      refine ⟨⟨_, _, _, _, _, _, _, _, _, _, _, ⟨w7.heap.size, rfl, ?_⟩, rfl⟩, ?_⟩
      · obtain ⟨he8, hl8, _⟩ := ex_ends f 6 0 d .nil 0 lc.tail t1 l1 (fun h => by omega) HA6.out.ends HR.out
        refine ⟨⟨f, _, l1, o1, c1, ?_, ?_, ?_, isNd _ _ _ _ _ _ _ _, item_new HG7.out.size HX8.out HX7.out, HP7.out.below ((Below.refl _ _).alloc (Nat.le_refl _) _), he8, ?_⟩, ?_, HG7.out.alloc _⟩
        · rw [← HM0.out, exV, if_pos HV6.out, HR.out]
          rfl
        · have := HF0.out; have := HL7.out; omega
        · have := HF0.out; omega
        · have := HF0.out; have := HL7.out; omega
        · rw [row_eq_alloc (Array.getElem?_eq_some_iff.1 HQ7.out).1]
          exact HQ7.out
      · obtain ⟨he8, hl8, _⟩ := ex_ends f 6 0 d .nil 0 lc.tail t1 l1 (fun h => by omega) HA6.out.ends HR.out
        rw [HPL.out, (HP7.out.below ((Below.refl _ _).alloc (Nat.le_refl _) _)).plen]
        have := HL7.out
        omega
end Go.Proofs.YtpakgaegckkmnaaGreatDoor
