/- TI TJ TK TL -/
import Derived.Test.YtnfhpdbbfejioaaGreatDoorE06
import Derived.Test.YtnfhpdbbfejioaaGreatDoorE07
namespace Go.Proofs.YtnfhpdbbfejioaaGreatDoor
set_option linter.unusedVariables false
set_option linter.unusedSimpArgs false
set_option maxRecDepth 100000
set_option maxHeartbeats 16000000
open Go Go.RowKit
def LeafC (n : Nat) : Prop := ∀ (d : Nat) (w : World) (P T o c : Nat) (l : List Tok), At w P T o c d l → 12 * l.length + 1 ≤ n → Calls Tryz.prog 256 #[.pointer (some ⟨P, 0, none⟩), .int .i64 (d : Int)] w (ExPost w P T (exV n 4 0 d .nil 0 l))
def IdxC (n : Nat) : Prop := ∀ m, m ≤ n → ∀ (d : Nat) (w : World) (P T o c : Nat) (l : List Tok), At w P T o c (d + 1) l → 12 * l.length + 10 ≤ m → Calls Tryz.prog 234 #[.pointer (some ⟨P, 0, none⟩), .int .i64 (d : Int)] w (ExPost w P T (exV m 6 0 d .nil 0 l))
def plen (P : Nat) (w : World) : Nat :=
 match w.cell? ⟨P, 0, none⟩ with
 | some (.slice _ n _) => n
 | _ => 0
theorem PS.plen {w : World} {P T o c : Nat} {l : List Tok} (h : PS w P T o c l) : plen P w = l.length := by
 unfold Go.Proofs.YtnfhpdbbfejioaaGreatDoor.plen
 rw [z_ (i := 0) h.own rfl]
 rfl
structure OneI (n d : Nat) (w : World) (P T q : Nat) (p : Nat) (l : List Tok) (M : R Tr) (tc : Array Value) (v : Value) (wr : World) : Prop where
 at' : ∃ f t lc o' c', exV f 3 0 d t p lc = M ∧ 12 * lc.length ≤ f ∧ f ≤ n ∧ IsNd t ∧ ExAt (Fr w.heap.size) wr t v ∧ PS wr P T o' c' lc ∧ Ends lc ∧ lc.length ≤ l.length
 tok : wr.heap[q]? = some (.cells tc 136)
 gr : Gr P w wr
theorem item_new {S : Nat → Prop} {w : World} {p : Int} {t u : Tr} {v z : Value} (hs : S w.heap.size) (h : ExAt S w t v) (g : ExAt S w u z) : ExAt S (w.alloc (.cells #[.int .i64 8, .int .i64 p, .int .i64 0, .string ⟨#[]⟩, .string ⟨#[]⟩, v, z, .slice none 0 0] 252)) (nd 8 p 0 [] [] t u ce) (.pointer (some ⟨w.heap.size, 0, none⟩)) := node_new hs h g
theorem one_leaf (n : Nat) (IL : LeafC n) (II : IdxC n) (d : Nat) (w : World) (P T o c : Nat) (l : List Tok) (h : At w P T o c d l) (hk : d ≤ 12 ∨ (hd l).k = 3) (hn : 12 * l.length + 2 ≤ n + 1) (h1 : (hd l).t ≠ [45]) (h2 : (hd l).t ≠ [33]) :
  Calls Tryz.prog 247 #[.pointer (some ⟨P, 0, none⟩), .int .i64 (d : Int)] w (ExPost w P T (exV (n + 1) 2 0 d .nil 0 l)) := by
 obtain ⟨y, hy, hyt⟩ := zM (hd l).t
 have HF : Hid (∀ W, Below w.heap.size w W → Calls Tryz.prog 59 #[.pointer (some ⟨P, 0, none⟩)] W fun e w' => e = .returned (.agg #[.int .i64 ((hd l).k : Int), .string y, .int .i64 ((hd l).p : Int)]) ∧ Below w.heap.size w w') := fun W hb => look_at h y hy W hb
 have HB : Hid (Calls Tryz.prog 148 #[.pointer (some ⟨P, 0, none⟩), .int .i64 (d : Int)] w fun e w' => e = .returned (.tuple #[]) ∧ Below w.heap.size w w') := bound_at h hk
 have HNo1 : Hid (∀ W, Below w.heap.size w W → Calls Tryz.prog 94 #[.pointer (some ⟨P, 0, none⟩), .string ⟨#[45]⟩] W fun e w' => e = .returned (.bool false) ∧ Below w.heap.size w w' ∧ Gr P W w') := fun W hb => pass_at2 h ⟨#[45]⟩ h1 W hb
 have HNo2 : Hid (∀ W, Below w.heap.size w W → Calls Tryz.prog 94 #[.pointer (some ⟨P, 0, none⟩), .string ⟨#[33]⟩] W fun e w' => e = .returned (.bool false) ∧ Below w.heap.size w w' ∧ Gr P W w') := fun W hb => pass_at2 h ⟨#[33]⟩ h2 W hb
 have HA : Hid (At w P T o c d l) := h
 have HN : Hid (12 * l.length + 2 ≤ n + 1) := hn
 have HIL : Hid (LeafC n) := IL
 have HII : Hid (IdxC n) := II
 have HM : Hid (exV (n + 1) 2 0 d .nil 0 l = bnd (exV n 4 0 d .nil 0 l) fun y l1 => exV n 3 0 d y (hd l).p l1) := by
  show _ = _
  rw [exV]
  unfold boundV
  rw [if_neg (by omega)]
  show (if (hd l).t = [45] ∨ (hd l).t = [33] then _ else _) = _
  rw [if_neg (fun e => e.elim h1 h2)]
 have HG0 : Hid (∀ e w', ExPost w P T (exV (n + 1) 2 0 d .nil 0 l) e w' → ExPost w P T (exV (n + 1) 2 0 d .nil 0 l) e w') := fun _ _ h => h
 generalize hG : ExPost w P T (exV (n + 1) 2 0 d .nil 0 l) = G at *
 clear HG0
 have HG0 : Hid (∀ e w', ExPost w P T (exV (n + 1) 2 0 d .nil 0 l) e w' → G e w') := fun e w' h => by rw [← hG]; exact h
 clear h hk hn hy hyt h1 h2 IL II hG
 go_enter Tryz.func247, Tryz.ntmps247
 go_wp2_with (go_at_call 148; fail)
 refine HB.out.mono ?_
 rintro e w1 ⟨rfl, hb⟩
 have HB1 : Hid (Below w.heap.size w w1) := hb
 clear hb
 go_wp2_with (go_at_call 59; fail)
 refine (HF.out _ HB1.out).mono ?_
 rintro e w2 ⟨rfl, hb⟩
 have HB2 : Hid (Below w.heap.size w w2) := hb
 clear hb
 go_wp2_with (go_at_call 94; fail)
 obtain ⟨tc, htc⟩ : ∃ tc : Array Value, tc = #[.int .i64 ((hd l).k : Int), .string y, .int .i64 ((hd l).p : Int)] := ⟨_, rfl⟩
 have HTC : Hid (tc[2]? = some (.int .i64 ((hd l).p : Int))) := by show _ = _; rw [htc]; rfl
 obtain ⟨W2, hW2⟩ : ∃ W2, W2 = w2.alloc (.cells #[.int .i64 ((hd l).k : Int), .string y, .int .i64 ((hd l).p : Int)] 136) := ⟨_, rfl⟩
 obtain ⟨q, hq⟩ : ∃ q, q = w2.heap.size := ⟨_, rfl⟩
 have HQ2 : Hid (W2.heap[q]? = some (.cells tc 136)) := by rw [hW2, hq, htc]; exact heap_alloc_last _ _
 have HNE : Hid (q ≠ P) := fun e => by have := HB2.out.size; have := HA.out.ltP; omega
 have HB3 : Hid (Below w.heap.size w W2) := by rw [hW2]; exact HB2.out.alloc HB2.out.size _
 rw [← hW2, ← hq]
 clear hW2 hq HB2 htc
 refine (HNo1.out _ HB3.out).mono ?_
 rintro e W3 ⟨rfl, hb, hg⟩
 have HQ3 : Hid (W3.heap[q]? = some (.cells tc 136)) := hg.blk HQ2.out HNE.out
 have HB4 : Hid (Below w.heap.size w W3) := hb
 clear hb hg HQ2 HB3
 go_wp2_with (go_at_call 94; fail)
 refine (HNo2.out _ HB4.out).mono ?_
 rintro e W4 ⟨rfl, hb, hg⟩
 have HQ4 : Hid (W4.heap[q]? = some (.cells tc 136)) := hg.blk HQ3.out HNE.out
 have HB5 : Hid (Below w.heap.size w W4) := hb
 clear hb hg HQ3 HB4
 go_wp2_with (go_at_call 256; fail)
 refine (HIL.out d W4 P T _ _ l (HA.out.below HB5.out) (by have := HN.out; omega)).mono ?_
 intro e w5 hpost
 rcases hpost.parts with ⟨t, l', v, o', c', hr, rfl, hx5, hp5, hg5⟩ | ⟨k, p, hr, ⟨a, rfl, ha⟩, hg5⟩
 rotate_left
 ·refine ⟨rfl, HG0.out _ _ ?_⟩
  rw [HM.out, hr]
  exact ⟨⟨a, rfl, ha⟩, (ze HB5.out).trans hg5⟩
 have hnd := zq n 4 0 d .nil 0 l t l' (by omega) (by omega) hr
 obtain ⟨vb, rfl⟩ := IsNd.ptr hnd hx5
 obtain ⟨M, hMM⟩ : ∃ M, M = exV n 3 0 d t (hd l).p l' := ⟨_, rfl⟩
 obtain ⟨he5, hl5, _⟩ := zo n 4 0 d .nil 0 l t l' (fun h => by omega) HA.out.ends hr
 have HI0 : Hid (OneI n d w P T q (hd l).p l M tc (.pointer (some ⟨vb, 0, none⟩)) w5) :=
  ⟨⟨n, t, l', o', c', hMM.symm, by have := HN.out; omega, Nat.le_refl _, hnd, hx5.old HB5.out.size, hp5, he5, hl5⟩, hg5.blk HQ4.out HNE.out, (ze HB5.out).trans hg5⟩
 have HMM : Hid (exV (n + 1) 2 0 d .nil 0 l = M) := by
  show _ = _
  rw [HM.out, hr, hMM]
  rfl
 clear hpost hr hx5 hp5 hg5 hMM he5 hl5 hnd HQ4 HB5 HM
 go_wp2_with fail
 go_loopw [6] (fun v wr => ∃ vb : Nat, v = .pointer (some ⟨vb, 0, none⟩) ∧ Hid (OneI n d w P T q (hd l).p l M tc (.pointer (some ⟨vb, 0, none⟩)) wr)) (fun _ wr => plen P wr)
 case atStart => exact ⟨vb, rfl, HI0.out⟩
 case round =>
  obtain ⟨b0, rfl, HI⟩ := hrel
  obtain ⟨⟨f, t0, lc, o0, c0, hM0, hf1, hf2, hnd0, hx0, hp0, he0, hl0⟩, htok, hgr⟩ := HI.out
  obtain ⟨f, rfl⟩ : ∃ f', f = f' + 1 := ⟨f - 1, by have := he0.pos; omega⟩
  have HM0 : Hid (exV (f + 1) 3 0 d t0 (hd l).p lc = M) := hM0
  have HPL : Hid (plen P wr = lc.length) := hp0.plen
  have HA0 : Hid (At wr P T o0 c0 d lc) := HA.out.go hgr hp0 he0 (by have := HA.out.deep; omega)
  have HF0 : Hid (12 * lc.length ≤ f + 1 ∧ f + 1 ≤ n ∧ lc.length ≤ l.length) := ⟨hf1, hf2, hl0⟩
  have HX0 : Hid (ExAt (Fr w.heap.size) wr t0 (.pointer (some ⟨b0, 0, none⟩))) := hx0
  have HND0 : Hid (IsNd t0) := hnd0
  have HTK : Hid (wr.heap[q]? = some (.cells tc 136)) := htok
  have HGR : Hid (Gr P w wr) := hgr
  clear hM0 hf1 hf2 hnd0 hx0 hp0 he0 hl0 htok hgr HI HI0
  go_wp2_with (go_at_call 94; fail)
  refine (qH HA0.out ⟨#[91]⟩ (by decide)).mono ?_
  rintro e w6 (⟨hv, rfl, hp, hg, he, hlt⟩ | ⟨hv, rfl, hb⟩)
  rotate_left
  ·have HX6 : Hid (ExAt (Fr w.heap.size) w6 t0 (.pointer (some ⟨b0, 0, none⟩))) := qP HA0.out.ps (ze hb) HX0.out
   have HP6 : Hid (PS w6 P T o0 c0 lc) := HA0.out.ps.below hb
   have HG6 : Hid (Gr P w w6) := HGR.out.trans (ze hb)
   have HV6 : Hid (¬ (hd lc).t = [91]) := hv
   clear hb hv
   go_wp2
   refine HG0.out _ _ ?_
   rw [HMM.out, ← HM0.out, exV, if_neg HV6.out]
   exact ⟨⟨_, _, _, rfl, HX6.out, HP6.out⟩, HG6.out⟩
  have htk := hg.blk HTK.out HNE.out
  have HTK6 : Hid (w6.drew.heap[q]? = some (.cells tc 136)) := htk
  have hc1 : w6.cell? ⟨q, 2, none⟩ = some (.int .i64 ((hd l).p : Int)) := z_ htk HTC.out
  have HX6 : Hid (ExAt (Fr w.heap.size) w6.drew t0 (.pointer (some ⟨b0, 0, none⟩))) := qP HA0.out.ps (hg.trans (ze (Below.refl _ _).drew)) HX0.out
  have HGd : Hid (Gr P wr w6.drew) := hg.trans (ze (Below.refl _ _).drew)
  have HA6 : Hid (At w6.drew P T (o0 + 3) (c0 - 1) (d + 1) lc.tail) := HA0.out.go HGd.out (hp.below (Below.refl _ _).drew) he (by have := HA0.out.deep; omega)
  have HV6 : Hid ((hd lc).t = [91]) := hv
  have HL6 : Hid (12 * lc.tail.length + 10 ≤ f) := by show _ ≤ _; have := HF0.out; omega
  have HL7 : Hid (lc.tail.length < lc.length) := hlt
  clear htk hv hp hg he hlt
  go_wp2_with fail
  go_region_with (go_at_call 234; refine (HII.out f (by have := HF0.out; omega) d _ P T _ _ lc.tail HA6.out HL6.out).mono ?_; intro e w7 hpost; rcases hpost.parts with ⟨t1, l1, v1, o1, c1, hr, rfl, hx7, hp7, hg7⟩ | ⟨k, p, hr, ⟨a, rfl, ha⟩, hg7⟩; rotate_left; exact (by refine ⟨rfl, HG0.out _ _ ?_⟩; rw [HMM.out, ← HM0.out, exV, if_pos HV6.out, hr]; exact ⟨⟨a, rfl, ha⟩, HGR.out.trans (HGd.out.trans hg7)⟩); obtain ⟨vb1, rfl⟩ := IsNd.ptr (zq f 6 0 d .nil 0 lc.tail t1 l1 (by omega) (by omega) hr) hx7; have hQ7 := hg7.blk HTK6.out HNE.out; have hc2 : w7.cell? ⟨q, 2, none⟩ = some (.int .i64 ((hd l).p : Int)) := z_ hQ7 HTC.out; have HQ7 : Hid (w7.heap[q]? = some (.cells tc 136)) := hQ7; have HR : Hid (exV f 6 0 d .nil 0 lc.tail = .ok (t1, l1)) := hr; have HX7 : Hid (ExAt (Fr w.heap.size) w7 t1 (.pointer (some ⟨vb1, 0, none⟩))) := hx7.old (HGR.out.trans HGd.out).size; have HX8 : Hid (ExAt (Fr w.heap.size) w7 t0 (.pointer (some ⟨b0, 0, none⟩))) := qP HA6.out.ps hg7 HX6.out; have HP7 : Hid (PS w7 P T o1 c1 l1) := hp7; have HG7 : Hid (Gr P w w7) := HGR.out.trans (HGd.out.trans hg7); clear hpost hr hx7 hp7 hg7 hQ7)
  all_goals
   go_wp2
   refine ⟨⟨_, _, _, _, _, _, _, _, _, _, _, ⟨w7.heap.size, rfl, ?_⟩, rfl⟩, ?_⟩
   ·obtain ⟨he8, hl8, _⟩ := zo f 6 0 d .nil 0 lc.tail t1 l1 (fun h => by omega) HA6.out.ends HR.out
    refine ⟨⟨f, _, l1, o1, c1, ?_, ?_, ?_, isNd _ _ _ _ _ _ _ _, item_new HG7.out.size HX8.out HX7.out, HP7.out.below ((Below.refl _ _).alloc (Nat.le_refl _) _), he8, ?_⟩, ?_, HG7.out.alloc _⟩
    ·rw [← HM0.out, exV, if_pos HV6.out, HR.out]
     rfl
    ·have := HF0.out; have := HL7.out; omega
    ·have := HF0.out; omega
    ·have := HF0.out; have := HL7.out; omega
    ·rw [zc (Array.getElem?_eq_some_iff.1 HQ7.out).1]
     exact HQ7.out
   ·obtain ⟨he8, hl8, _⟩ := zo f 6 0 d .nil 0 lc.tail t1 l1 (fun h => by omega) HA6.out.ends HR.out
    rw [HPL.out, (HP7.out.below ((Below.refl _ _).alloc (Nat.le_refl _) _)).plen]
    have := HL7.out
    omega
structure BinI (n lv d : Nat) (w : World) (P T : Nat) (p : Nat) (l : List Tok) (M : R Tr) (v : Value) (wr : World) : Prop where
 at' : ∃ f t lc o' c', exV f 1 lv d t p lc = M ∧ 12 * lc.length ≤ f ∧ f ≤ n ∧ IsNd t ∧ ExAt (Fr w.heap.size) wr t v ∧ PS wr P T o' c' lc ∧ Ends lc ∧ lc.length ≤ l.length
 gr : Gr P w wr
theorem bin_new {S : Nat → Prop} {w : World} {p : Int} {m : By} {x : ByteArray} {t u : Tr} {v z : Value} (hx : str m = .string x) (hs : S w.heap.size) (h : ExAt S w t v) (g : ExAt S w u z) : ExAt S (w.alloc (.cells #[.int .i64 3, .int .i64 p, .int .i64 0, .string ⟨#[]⟩, .string x, v, z, .slice none 0 0] 252)) (nd 3 p 0 [] m t u ce) (.pointer (some ⟨w.heap.size, 0, none⟩)) := by
 rw [← hx]
 exact node_new hs h g
theorem near_at' {w : World} {P T o c d : Nat} {l : List Tok} (h : At w P T o c d l) (y : ByteArray) (hy : y.data.toList = (hd l).t) (W : World) (hb : Below w.heap.size w W) :
  Calls Tryz.prog 152 #[.string y] W fun e w' => e = .returned (.int .i64 (zE (hd l).t : Nat)) ∧ Below w.heap.size w w' := by
 rw [← hy]
 exact (near_any y W (h.env.below hb)).mono fun e w' ⟨a, b⟩ => ⟨a, hb.trans (b.mono hb.size)⟩
theorem next_at {w : World} {P T o c d : Nat} {l : List Tok} (h : At w P T o c d l) (y : ByteArray) (hy : str (hd l).t = .string y) (hk : (hd l).t ≠ []) (W : World) (hb : Below w.heap.size w W) :
  Calls Tryz.prog 147 #[.pointer (some ⟨P, 0, none⟩)] W fun e w' => e = .returned (.agg #[.int .i64 ((hd l).k : Int), .string y, .int .i64 ((hd l).p : Int)]) ∧ PS w' P T (o + 3) (c - 1) l.tail ∧ Gr P w w' := by
 obtain ⟨e1, e2, e3, e4⟩ := h.ends.tail hk
 have hA := h.below hb
 rw [← hy]
 exact (next_any W P T o c (hd l) l.tail hA.psc e2).mono fun e w' ⟨a, b, g⟩ => ⟨a, b, (ze hb).trans g⟩
theorem bin_walk (n : Nat) (IB : ∀ m, m ≤ n → BinC m) (lv d : Nat) (w : World) (P T o c : Nat) (l : List Tok) (h : At w P T o c d l) (hlv1 : 1 ≤ lv) (hlv : lv ≤ 6) (hn : 12 * l.length + (10 - lv) ≤ n + 1) :
  Calls Tryz.prog 235 #[.pointer (some ⟨P, 0, none⟩), .int .i64 (lv : Int), .int .i64 (d : Int)] w (ExPost w P T (exV (n + 1) 0 lv d .nil 0 l)) := by
 obtain ⟨y, hy, hyt⟩ := zM (hd l).t
 have HF : Hid (Calls Tryz.prog 59 #[.pointer (some ⟨P, 0, none⟩)] w fun e w' => e = .returned (.agg #[.int .i64 ((hd l).k : Int), .string y, .int .i64 ((hd l).p : Int)]) ∧ Below w.heap.size w w') := look_at h y hy w (Below.refl _ _)
 have HA : Hid (At w P T o c d l) := h
 have HN : Hid (12 * l.length + (10 - lv) ≤ n + 1) := hn
 have HLV : Hid (1 ≤ lv) := hlv1
 have HB1 : Hid (∀ m, m ≤ n → ∀ (w : World) (o c : Nat) (l : List Tok), At w P T o c d l → 12 * l.length + (9 - lv) ≤ m → Calls Tryz.prog 235 #[.pointer (some ⟨P, 0, none⟩), .int .i64 ((lv : Int) + 1), .int .i64 (d : Int)] w (ExPost w P T (exV m 0 (lv + 1) d .nil 0 l))) := fun m hm w o c l h hl => by
  have := IB m hm (lv + 1) d w P T o c l h (by omega) (by omega) (by omega)
  rw [show ((lv + 1 : Nat) : Int) = (lv : Int) + 1 by omega] at this
  exact this
 have HB2 : Hid (∀ m, m ≤ n → ∀ (w : World) (o c : Nat) (l : List Tok), At w P T o c d l → 12 * l.length + (9 - lv) ≤ m → Calls Tryz.prog 235 #[.pointer (some ⟨P, 0, none⟩), .int .i64 (IntKind.i64.wrap ((lv : Int) + 1)), .int .i64 (d : Int)] w (ExPost w P T (exV m 0 (lv + 1) d .nil 0 l))) := fun m hm w o c l h hl => by
  rw [i64_same (by omega) (by omega)]
  exact HB1.out m hm w o c l h hl
 have HM : Hid (exV (n + 1) 0 lv d .nil 0 l = bnd (exV n 0 (lv + 1) d .nil 0 l) fun y l1 => exV n 1 lv d y (hd l).p l1) := by
  show _ = _
  rw [exV, if_neg (by omega)]
 have HG0 : Hid (∀ e w', ExPost w P T (exV (n + 1) 0 lv d .nil 0 l) e w' → ExPost w P T (exV (n + 1) 0 lv d .nil 0 l) e w') := fun _ _ h => h
 generalize hG : ExPost w P T (exV (n + 1) 0 lv d .nil 0 l) = G at *
 clear HG0
 have HG0 : Hid (∀ e w', ExPost w P T (exV (n + 1) 0 lv d .nil 0 l) e w' → G e w') := fun e w' h => by rw [← hG]; exact h
 have h2 := fld2
 have h1 := fld1
 clear h hn hy hyt hG IB hlv1
 go_enter Tryz.func235, Tryz.ntmps235
 go_wp2_with (go_at_call 59; fail)
 refine HF.out.mono ?_
 rintro e w1 ⟨rfl, hb⟩
 have HBw1 : Hid (Below w.heap.size w w1) := hb
 clear hb
 go_wp2_with (go_at_call 235; fail)
 refine (HB1.out n (Nat.le_refl _) w1 o c l (HA.out.below HBw1.out) (by have := HN.out; omega)).mono ?_
 intro e w5 hpost
 rcases hpost.parts with ⟨t, l', v, o', c', hr, rfl, hx5, hp5, hg5⟩ | ⟨k, p, hr, ⟨a, rfl, ha⟩, hg5⟩
 rotate_left
 ·refine ⟨rfl, HG0.out _ _ ?_⟩
  rw [HM.out, hr]
  exact ⟨⟨a, rfl, ha⟩, (ze HBw1.out).trans hg5⟩
 have hnd := zq n 0 (lv + 1) d .nil 0 l t l' (by omega) (by omega) hr
 obtain ⟨vb, rfl⟩ := IsNd.ptr hnd hx5
 obtain ⟨M, hMM⟩ : ∃ M, M = exV n 1 lv d t (hd l).p l' := ⟨_, rfl⟩
 obtain ⟨he5, hl5, -⟩ := zo n 0 (lv + 1) d .nil 0 l t l' (fun h => by omega) HA.out.ends hr
 have HI0 : Hid (BinI n lv d w P T (hd l).p l M (.pointer (some ⟨vb, 0, none⟩)) w5) :=
  ⟨⟨n, t, l', o', c', hMM.symm, by have := HN.out; omega, Nat.le_refl _, hnd, hx5.old HBw1.out.size, hp5, he5, hl5⟩, (ze HBw1.out).trans hg5⟩
 have HMM : Hid (exV (n + 1) 0 lv d .nil 0 l = M) := by
  show _ = _
  rw [HM.out, hr, hMM]
  rfl
 clear hpost hr hx5 hp5 hg5 hMM he5 hl5 hnd HM
 go_wp2_with fail
 go_loopw [8] (fun v wr => ∃ vb : Nat, v = .pointer (some ⟨vb, 0, none⟩) ∧ Hid (BinI n lv d w P T (hd l).p l M (.pointer (some ⟨vb, 0, none⟩)) wr)) (fun _ wr => plen P wr)
 case atStart => exact ⟨vb, rfl, HI0.out⟩
 case round =>
  obtain ⟨b0, rfl, HI⟩ := hrel
  obtain ⟨⟨f, t0, lc, o0, c0, hM0, hf1, hf2, hnd0, hx0, hp0, he0, hl0⟩, hgr⟩ := HI.out
  obtain ⟨f, rfl⟩ : ∃ f', f = f' + 1 := ⟨f - 1, by have := he0.pos; omega⟩
  have HM0 : Hid (exV (f + 1) 1 lv d t0 (hd l).p lc = M) := hM0
  have HPL : Hid (plen P wr = lc.length) := hp0.plen
  have HA0 : Hid (At wr P T o0 c0 d lc) := HA.out.go hgr hp0 he0 (by have := HA.out.deep; omega)
  have HF0 : Hid (12 * lc.length ≤ f + 1 ∧ f + 1 ≤ n ∧ lc.length ≤ l.length) := ⟨hf1, hf2, hl0⟩
  have HX0 : Hid (ExAt (Fr w.heap.size) wr t0 (.pointer (some ⟨b0, 0, none⟩))) := hx0
  have HGR : Hid (Gr P w wr) := hgr
  clear hM0 hf1 hf2 hnd0 hx0 hp0 he0 hl0 hgr HI HI0
  obtain ⟨z, hz, hzt⟩ := zM (hd lc).t
  have HZ : Hid (str (hd lc).t = .string z) := hz
  have HZT : Hid (z.data.toList = (hd lc).t) := hzt
  clear hz hzt
  go_wp2_with (go_at_call 59; fail)
  refine (look_at HA0.out z HZ.out wr (Below.refl _ _)).mono ?_
  rintro e w6 ⟨rfl, hb6⟩
  have HB6 : Hid (Below wr.heap.size wr w6) := hb6
  clear hb6
  go_wp2_with (go_at_call 152; fail)
  refine (near_at' HA0.out z HZT.out w6 HB6.out).mono ?_
  rintro e w7 ⟨rfl, hb7⟩
  have HB7 : Hid (Below wr.heap.size wr w7) := hb7
  clear hb7 HB6
  by_cases hnear : zE (hd lc).t = lv
  rotate_left
  ·have hbe : (((zE (hd lc).t : Nat) : Int) == (lv : Int)) = false := by simp; omega
   have HV6 : Hid (¬ zE (hd lc).t = lv) := hnear
   have HX6 : Hid (ExAt (Fr w.heap.size) w7 t0 (.pointer (some ⟨b0, 0, none⟩))) := qP HA0.out.ps (ze HB7.out) HX0.out
   have HP6 : Hid (PS w7 P T o0 c0 lc) := HA0.out.ps.below HB7.out
   have HG6 : Hid (Gr P w w7) := HGR.out.trans (ze HB7.out)
   clear hnear
   generalize ((zE (hd lc).t : Nat) : Int) = nv at *
   go_wp2
   refine HG0.out _ _ ?_
   rw [HMM.out, ← HM0.out, exV, if_neg HV6.out]
   exact ⟨⟨_, _, _, rfl, HX6.out, HP6.out⟩, HG6.out⟩
  have hbe : (((zE (hd lc).t : Nat) : Int) == (lv : Int)) = true := by simp; omega
  have HV6 : Hid (zE (hd lc).t = lv) := hnear
  have HTN : Hid ((hd lc).t ≠ []) := fun e => by
   rw [e] at hnear
   have h0 : zE [] = 0 := by decide
   have := HLV.out
   omega
  clear hnear
  generalize ((zE (hd lc).t : Nat) : Int) = nv at *
  go_wp2_with (go_at_call 147; fail)
  refine (next_at HA0.out z HZ.out HTN.out w7 HB7.out).mono ?_
  rintro e w8 ⟨rfl, hp, hg⟩
  obtain ⟨he, -, -, hlt⟩ := HA0.out.ends.tail HTN.out
  have HX8 : Hid (ExAt (Fr w.heap.size) w8 t0 (.pointer (some ⟨b0, 0, none⟩))) := qP HA0.out.ps hg HX0.out
  have HGd : Hid (Gr P wr w8) := hg
  have HA8 : Hid (At w8 P T (o0 + 3) (c0 - 1) d lc.tail) := HA0.out.go HGd.out hp he (by have := HA0.out.deep; omega)
  have HL6 : Hid (12 * lc.tail.length + (9 - lv) ≤ f) := by show _ ≤ _; have := HF0.out; omega
  have HL7 : Hid (lc.tail.length < lc.length) := hlt
  clear hp hg he hlt hbe
  go_wp2_with (go_at_call 235; fail)
  refine (HB1.out f (by have := HF0.out; omega) _ _ _ lc.tail HA8.out HL6.out).mono ?_
  intro e w9 hpost
  rcases hpost.parts with ⟨t1, l1, v1, o1, c1, hr, rfl, hx7, hp7, hg7⟩ | ⟨k, p, hr, ⟨a, rfl, ha⟩, hg7⟩
  rotate_left
  ·refine ⟨rfl, HG0.out _ _ ?_⟩
   rw [HMM.out, ← HM0.out, exV, if_pos HV6.out, hr]
   exact ⟨⟨a, rfl, ha⟩, HGR.out.trans (HGd.out.trans hg7)⟩
  obtain ⟨vb1, rfl⟩ := IsNd.ptr (zq f 0 (lv + 1) d .nil 0 lc.tail t1 l1 (by omega) (by omega) hr) hx7
  have HR : Hid (exV f 0 (lv + 1) d .nil 0 lc.tail = .ok (t1, l1)) := hr
  have HX9 : Hid (ExAt (Fr w.heap.size) w9 t1 (.pointer (some ⟨vb1, 0, none⟩))) := hx7.old (HGR.out.trans HGd.out).size
  have HXA : Hid (ExAt (Fr w.heap.size) w9 t0 (.pointer (some ⟨b0, 0, none⟩))) := qP HA8.out.ps hg7 HX8.out
  have HP9 : Hid (PS w9 P T o1 c1 l1) := hp7
  have HG9 : Hid (Gr P w w9) := HGR.out.trans (HGd.out.trans hg7)
  clear hpost hr hx7 hp7 hg7
  go_wp2
  obtain ⟨he8, hl8, -⟩ := zo f 0 (lv + 1) d .nil 0 lc.tail t1 l1 (fun h => by omega) HA8.out.ends HR.out
  have hps := HP9.out.below ((Below.refl _ _).alloc (Nat.le_refl _) (.cells #[.int .i64 3, .int .i64 ((hd l).p : Int), .int .i64 0, .string ⟨#[]⟩, .string z, .pointer (some ⟨b0, 0, none⟩), .pointer (some ⟨vb1, 0, none⟩), .slice none 0 0] 252))
  refine ⟨⟨w9.heap.size, rfl, ?_⟩, ?_⟩
  ·refine ⟨⟨f, _, l1, o1, c1, ?_, ?_, ?_, isNd _ _ _ _ _ _ _ _, bin_new HZ.out HG9.out.size HXA.out HX9.out, hps, he8, ?_⟩, HG9.out.alloc _⟩
   ·rw [← HM0.out, exV, if_pos HV6.out, HR.out]
    rfl
   ·have := HF0.out; have := HL7.out; omega
   ·have := HF0.out; omega
   ·have := HF0.out; have := HL7.out; omega
  ·rw [HPL.out, hps.plen]
   have := HL7.out
   omega
theorem info84 : (Tryz.prog.info? 145).map (fun i => (i.zero, i.size, i.bytes)) = some (some (.pointer none), 1, 8) := by kernel_rfl
def cat (xs : List Tr) (r : R Tr) : R Tr :=
 match r with
 | .ok (g, l) => .ok (xs.foldr cc g, l)
 | .error e => .error e
theorem cat_snoc (xs : List Tr) (t g : Tr) (l : List Tok) : cat (xs ++ [t]) (.ok (g, l)) = cat xs (.ok (cc t g, l)) := by simp [cat]
theorem foldr_ce (xs : List Tr) : xs.foldr cc ce = chain xs := by
 induction xs with
 | nil => rfl
 | cons x xs ih => rw [List.foldr_cons, ih]; rfl
theorem chain_snoc {S : Nat → Prop} {w : World} {t : Tr} {v : Value} (ht : ExAt S w t v) : ∀ (xs : List Tr) (ys : List Value), ExAt S w (chain xs) (.tuple ys.toArray) → ExAt S w (chain (xs ++ [t])) (.tuple (ys ++ [v]).toArray)
 | [], ys, h => by
  have h' : Value.tuple ys.toArray = .tuple #[] := by
   have : ExAt S w (.slice [] []) (.tuple ys.toArray) := h
   rw [ExAt] at this
   exact this
  injection h' with h'
  have : ys = [] := by simpa using h'
  subst this
  show ExAt S w (.slice [t] [.slice [] []]) _
  rw [ExAt]
  exact ⟨v, [], rfl, ht, by rw [ExAt]⟩
 | x :: xs, ys, h => by
  have h' : ExAt S w (.slice [x] [chain xs]) (.tuple ys.toArray) := h
  rw [ExAt] at h'
  obtain ⟨y, zs, e, hx, hz⟩ := h'
  injection e with e
  have : ys = y :: zs := by simpa using congrArg Array.toList e
  subst this
  show ExAt S w (.slice [x] [chain (xs ++ [t])]) _
  rw [ExAt]
  exact ⟨y, zs ++ [v], rfl, hx, chain_snoc ht xs zs hz⟩
theorem own_gr {P T o c B n : Nat} {w w' : World} {l : List Tok} {v : Value} {ys : List Value} (hp : PS w P T o c l) (hg : Gr P w w') (h : w.ownsRow B 145 1 v n ys) : w'.ownsRow B 145 1 v n ys := by
 refine ⟨h.1, ?_⟩
 rcases h.2 with hh | ⟨g', cap, cur, hv, hb, hq, rest⟩
 ·exact .inl hh
 ·exact .inr ⟨g', cap, cur, hv, hb, gr_keeps hp.own hg _ _ _ (.inr rfl) hq, rest⟩
theorem more_at {w : World} {P T o c d : Nat} {l : List Tok} (h : At w P T o c d l) :
  Calls Tryz.prog 95 #[.pointer (some ⟨P, 0, none⟩)] w fun e w' => (∃ b : Bool, (hd l).t = (if b then [44] else [41]) ∧ e = .returned (.bool b) ∧ PS w' P T (o + 3) (c - 1) l.tail ∧ Gr P w w' ∧ Ends l.tail ∧ l.tail.length < l.length) ∨ ((hd l).t ≠ [44] ∧ (hd l).t ≠ [41] ∧ zC 3 (hd l).p e w' ∧ Gr P w w') := by
 by_cases h1 : (hd l).t = [44]
 ·obtain ⟨e1, e2, e3, e4⟩ := h.ends.tail (by rw [h1]; simp)
  exact (more_comma w P T o c (hd l) l.tail h.psc e2 h1).mono fun e w' ⟨a, b, g⟩ => .inl ⟨true, h1, a, b, g, e1, e4⟩
 ·by_cases h2 : (hd l).t = [41]
  ·obtain ⟨e1, e2, e3, e4⟩ := h.ends.tail (by rw [h2]; simp)
   exact (more_end w P T o c (hd l) l.tail h.psc e2 h2).mono fun e w' ⟨a, b, g⟩ => .inl ⟨false, h2, a, b, g, e1, e4⟩
  ·exact (more_no w P T o c (hd l) l.tail h.psc h1 h2).mono fun e w' ⟨a, b⟩ => .inr ⟨h1, h2, a, ze b⟩
structure ArgI (n d : Nat) (w : World) (P T : Nat) (l : List Tok) (M : R Tr) (b : Bool) (v : Value) (k : Nat) (wr : World) : Prop where
 at' : ∃ xs ys lc o' c', ys.length = k ∧ k + lc.length ≤ l.length + 1 ∧ wr.ownsRow w.heap.size 145 1 v k ys ∧ ExAt (fun i => w.heap.size ≤ i ∧ some i ≠ v.ownBlock) wr (chain xs) (.tuple ys.toArray) ∧ PS wr P T o' c' lc ∧ Ends lc ∧ lc.length ≤ l.length ∧
  (b = false → M = .ok (chain xs, lc)) ∧ (b = true → ∃ f, M = cat xs (exV f 7 0 d ce 0 lc) ∧ 12 * lc.length + 10 ≤ f ∧ f ≤ n)
 gr : Gr P w wr
def ExprC (n : Nat) : Prop := ∀ m, m ≤ n → ∀ (d : Nat) (w : World) (P T o c : Nat) (l : List Tok), At w P T o c d l → 12 * l.length + 9 ≤ m → Calls Tryz.prog 206 #[.pointer (some ⟨P, 0, none⟩), .int .i64 (d : Int)] w (ExPost w P T (exV m 0 1 d .nil 0 l))
theorem args_walk (n : Nat) (IE : ExprC n) (d : Nat) (w : World) (P T o c : Nat) (l : List Tok) (h : At w P T o c (d + 1) l) (hn : 12 * l.length + 10 ≤ n) :
  Calls Tryz.prog 233 #[.pointer (some ⟨P, 0, none⟩), .int .i64 (d : Int)] w (ArPost w P T (argV n d l)) := by
 obtain ⟨i0, hi0, hz0, hs0, hb0⟩ := info_parts info84
 have HA : Hid (At w P T o c (d + 1) l) := h
 have HN : Hid (12 * l.length + 10 ≤ n) := hn
 have hdd := h.deep
 have HE1 : Hid (∀ m, m ≤ n → ∀ (w : World) (o c : Nat) (l : List Tok), At w P T o c (d + 1) l → 12 * l.length + 9 ≤ m → Calls Tryz.prog 206 #[.pointer (some ⟨P, 0, none⟩), .int .i64 ((d : Int) + 1)] w (ExPost w P T (exV m 0 1 (d + 1) .nil 0 l))) := fun m hm w o c l h hl => by
  have := IE m hm (d + 1) w P T o c l h hl
  rw [show ((d + 1 : Nat) : Int) = (d : Int) + 1 by omega] at this
  exact this
 have hd2 : d ≤ 100000 := by omega
 obtain ⟨M, hM⟩ : ∃ M, M = argV n d l := ⟨_, rfl⟩
 have HM : Hid (M = argV n d l) := hM
 have HG0 : Hid (∀ e w', ArPost w P T M e w' → ArPost w P T (argV n d l) e w') := fun e w' h => by rw [← hM]; exact h
 generalize hG : ArPost w P T (argV n d l) = G at *
 clear h hn hdd IE hM hG
 go_enter Tryz.func233, Tryz.ntmps233
 go_wp2_with (go_at_call 94; fail)
 refine (qH HA.out ⟨#[41]⟩ (by decide)).mono ?_
 have HI0 : Hid (∀ e w1, (((hd l).t = [41] ∧ e = Ending.returned (.bool true) ∧ PS w1 P T (o + 3) (c - 1) l.tail ∧ Gr P w w1 ∧ Ends l.tail ∧ l.tail.length < l.length) ∨ ((hd l).t ≠ [41] ∧ e = Ending.returned (.bool false) ∧ Below w.heap.size w w1)) → ∃ b : Bool, e = .returned (.bool (!b)) ∧ ArgI n d w P T l M b (.slice none 0 0) 0 w1) := by
  rintro e w1 (⟨hv, rfl, hp, hg, he, hlt⟩ | ⟨hv, rfl, hb⟩)
  ·refine ⟨false, rfl, ⟨[], [], l.tail, _, _, rfl, by omega, World.ownsRow_nil _ _ _ _, by rw [chain, ExAt], hp, he, by omega, fun _ => ?_, fun h => by cases h⟩, hg⟩
   rw [HM.out]
   unfold argV
   rw [if_pos hv]
   rfl
  ·refine ⟨true, rfl, ⟨[], [], l, _, _, rfl, by omega, World.ownsRow_nil _ _ _ _, by rw [chain, ExAt], HA.out.ps.below hb, HA.out.ends, Nat.le_refl _, (fun h => by cases h), fun _ => ⟨n, ?_, HN.out, Nat.le_refl _⟩⟩, ze hb⟩
   rw [HM.out]
   unfold argV
   rw [if_neg hv]
   cases exV n 7 0 d ce 0 l <;> rfl
 intro e w1 hpost
 obtain ⟨b, rfl, hI⟩ := HI0.out e w1 hpost
 have HI1 : Hid (ArgI n d w P T l M b (.slice none 0 0) 0 w1) := hI
 clear hpost hI HI0
 go_wp2_with fail
 go_loopw [5, 6] (fun v5 v6 wr => ∃ (b : Bool) (q : Option Addr) (k c : Nat), v6 = .bool b ∧ v5 = .slice q k c ∧ Hid (ArgI n d w P T l M b (.slice q k c) k wr)) (fun _ _ wr => plen P wr)
 case atStart => exact ⟨b, none, 0, 0, by cases b <;> rfl, rfl, HI1.out⟩
 case round =>
  clear HI1
  obtain ⟨b, q, k, cq, rfl, rfl, HI⟩ := hrel
  obtain ⟨⟨xs, ys, lc, o0, c0, hk, hkl, hown, hx, hp, he, hl, hbf, hbt⟩, hgr⟩ := HI.out
  have hkk : k ≤ 200000 := by have := HA.out.deep; omega
  cases b with
  | false =>
   have HX : Hid (ExAt (Fr w.heap.size) wr (chain xs) (.tuple ys.toArray)) := ExAt.mono (fun _ h _ => h.1) _ _ hx
   have HO : Hid (wr.ownsRow w.heap.size 145 1 (.slice q k cq) ys.length ys) := by rw [hk]; exact hown
   have HP : Hid (PS wr P T o0 c0 lc) := hp
   have HGR : Hid (Gr P w wr) := hgr
   have HMM : Hid (M = .ok (chain xs, lc)) := hbf rfl
   clear hk hkl hown hx hp he hl hbf hbt hgr HI
   go_wp2
   refine HG0.out _ _ ?_
   rw [HMM.out]
   exact ⟨⟨_, ys, o0, c0, rfl, HO.out, HX.out, HP.out⟩, HGR.out⟩
  | true =>
   obtain ⟨f, hM0, hf1, hf2⟩ := hbt rfl
   obtain ⟨f, rfl⟩ : ∃ f', f = f' + 1 := ⟨f - 1, by omega⟩
   have HM0 : Hid (M = cat xs (exV (f + 1) 7 0 d ce 0 lc)) := hM0
   have HPL : Hid (plen P wr = lc.length) := hp.plen
   have HA0 : Hid (At wr P T o0 c0 (d + 1) lc) := HA.out.go hgr hp he (by have := HA.out.deep; omega)
   have HF0 : Hid (12 * lc.length + 10 ≤ f + 1 ∧ f + 1 ≤ n ∧ lc.length ≤ l.length ∧ k + lc.length ≤ l.length + 1) := ⟨hf1, hf2, hl, hkl⟩
   have HX0 : Hid (ExAt (fun i => w.heap.size ≤ i ∧ some i ≠ (Value.slice q k cq).ownBlock) wr (chain xs) (.tuple ys.toArray)) := hx
   have HO0 : Hid (wr.ownsRow w.heap.size 145 1 (.slice q k cq) k ys) := hown
   have HK : Hid (ys.length = k) := hk
   have HGR : Hid (Gr P w wr) := hgr
   clear hk hkl hown hx hp he hl hbf hbt hgr HI hM0 hf1 hf2
   go_wp2_with (go_at_call 206; fail)
   refine (HE1.out f (by have := HF0.out; omega) _ _ _ lc HA0.out (by have := HF0.out; omega)).mono ?_
   intro e w2 hpost
   rcases hpost.parts with ⟨t1, l1, v1, o1, c1, hr, rfl, hx2, hp2, hg2⟩ | ⟨k1, p1, hr, ⟨a, rfl, ha⟩, hg2⟩
   rotate_left
   ·refine ⟨rfl, HG0.out _ _ ?_⟩
    rw [HM0.out, exV, hr]
    exact ⟨⟨a, rfl, ha⟩, HGR.out.trans hg2⟩
   obtain ⟨vb, rfl⟩ := IsNd.ptr (zq f 0 1 (d + 1) .nil 0 lc t1 l1 (by omega) (by omega) hr) hx2
   obtain ⟨he1, hl1, hl1'⟩ := zo f 0 1 (d + 1) .nil 0 lc t1 l1 (fun h => by omega) HA0.out.ends hr
   have hlt1 := hl1' (by decide) (by decide)
   have HR : Hid (exV f 0 1 (d + 1) .nil 0 lc = .ok (t1, l1)) := hr
   have HX2 : Hid (ExAt (Fr wr.heap.size) w2 t1 (.pointer (some ⟨vb, 0, none⟩))) := hx2
   have HX3 : Hid (ExAt (fun i => w.heap.size ≤ i ∧ some i ≠ (Value.slice q k cq).ownBlock) w2 (chain xs) (.tuple ys.toArray)) := qP HA0.out.ps hg2 HX0.out
   have HP2 : Hid (PS w2 P T o1 c1 l1) := hp2
   have HG2 : Hid (Gr P w w2) := HGR.out.trans hg2
   have HO2 : Hid (w2.ownsRow w.heap.size 145 1 (.slice q k cq) k ys) := own_gr HA0.out.ps hg2 HO0.out
   have HE2 : Hid (Ends l1 ∧ l1.length < lc.length) := ⟨he1, hlt1⟩
   have HSz : Hid (wr.heap.size ≤ w2.heap.size) := hg2.size
   have HBlk : Hid (∀ i, (Value.slice q k cq).ownBlock = some i → w.heap.size ≤ i ∧ i < wr.heap.size) := fun i hi => HO0.out.lt i hi
   have HO3 : Hid ((w2.alloc (.cells #[.pointer (some ⟨vb, 0, none⟩)] 145)).ownsRow w.heap.size 145 1 (.slice q k cq) k ys) := HO2.out.alloc _
   have HN3 : Hid (∀ (i : Nat) (x : Value), ([.pointer (some ⟨vb, 0, none⟩)] : List Value)[i]? = some x → (w2.alloc (.cells #[.pointer (some ⟨vb, 0, none⟩)] 145)).cell? ((⟨w2.heap.size, 0, none⟩ : Addr).add i) = some x) := World.news_of_block (cs := #[.pointer (some ⟨vb, 0, none⟩)]) (t := 145) (fr := (0, 0)) (heap_alloc_last w2 _)
   have H13 : Hid (∀ u ∈ ([.pointer (some ⟨vb, 0, none⟩)] : List Value), u.oneCell' = true) := fun u hu => by simp at hu; rw [hu]; rfl
   have HZ3 : Hid (w.heap.size ≤ (w2.alloc (.cells #[.pointer (some ⟨vb, 0, none⟩)] 145)).heap.size) := by show _ ≤ _; have := HG2.out.size; simp; omega
   clear hpost hr hx2 hp2 hg2 he1 hl1 hl1' hlt1
   go_wp2_with (at_builtin; refine wpList_append_lies _ rfl _ _ 250 rfl w.heap.size 145 i0 _ 1 8 Tryz.underlying250 hi0 hz0 hs0 hb0 rfl (by decide) _ k _ rfl HO3.out ⟨w2.heap.size, 0, none⟩ 1 1 [.pointer (some ⟨vb, 0, none⟩)] rfl rfl HN3.out H13.out (by decide) (by unfold maxLen; omega) (by omega) HZ3.out (w2.heap.size + 1) (by simp) ?_)
   intro g4 cap4 w4 hown4 hgrow4 hg4 hlt4
   have hW3 : w2.heap.size < (w2.alloc (.cells #[.pointer (some ⟨vb, 0, none⟩)] 145)).heap.size := by simp
   have hsz4 := hgrow4.size
   have hsz2 : wr.heap.size ≤ w2.heap.size := HSz.out
   have hgw : w.heap.size ≤ g4 := by
    rcases hg4 with h | h
    ·exact (HBlk.out g4 h).1
    ·have := HG2.out.size; omega
   have hkp : ∀ (b : Nat) (cs : Array Value) (t : TypeId), some b ≠ (Value.slice q k cq).ownBlock → w2.heap[b]? = some (.cells cs t) → w4.heap[b]? = some (.cells cs t) := fun b cs t hb h => by
    have hlt := (Array.getElem?_eq_some_iff.1 h).1
    rw [hgrow4.block b (by omega) hb, zc hlt]
    exact h
   have hG4 : Gr P w w4 := by
    have h2 := HG2.out
    refine ⟨hgrow4.os.trans h2.os, hgrow4.tape.trans h2.tape, hgrow4.output.trans h2.output, by have := h2.size; omega, fun b hb hne => ?_⟩
    rw [hgrow4.block b (by have := h2.size; omega) (fun e => by have := (HBlk.out b e.symm).1; omega), zc (by have := h2.size; omega)]
    exact h2.block b hb hne
   have hP4 : PS w4 P T o1 c1 l1 := by
    have hPl := HA.out.ltP
    have hTl := HA.out.ltT
    refine HP2.out.of ?_ ?_
    ·rw [hgrow4.block P (by have := HG2.out.size; omega) (fun e => by have := (HBlk.out P e.symm).1; omega), zc (by have := HG2.out.size; omega)]
    ·rw [hgrow4.block T (by have := HG2.out.size; omega) (fun e => by have := (HBlk.out T e.symm).1; omega), zc (by have := HG2.out.size; omega)]
   have hX4 : ExAt (fun i => w.heap.size ≤ i ∧ some i ≠ (Value.slice (some ⟨g4, 0, none⟩) (k + 1) cap4).ownBlock) w4 (chain (xs ++ [t1])) (.tuple (ys ++ [Value.pointer (some ⟨vb, 0, none⟩)]).toArray) := by
    have hA : ExAt (fun i => w.heap.size ≤ i ∧ some i ≠ (Value.slice q k cq).ownBlock ∧ i < w2.heap.size) w2 (chain xs) (.tuple ys.toArray) := ExAt.mono (fun i h hi => ⟨h.1, h.2, hi⟩) _ _ HX3.out
    have hB : ExAt (fun i => w.heap.size ≤ i ∧ some i ≠ (Value.slice q k cq).ownBlock ∧ i < w2.heap.size) w2 t1 (.pointer (some ⟨vb, 0, none⟩)) := ExAt.mono (fun i h hi => ⟨by have : wr.heap.size ≤ i := h; have := HGR.out.size; omega, fun e => by have := (HBlk.out i e.symm).2; have : wr.heap.size ≤ i := h; omega, hi⟩) _ _ HX2.out
    have hC := chain_snoc hB xs ys hA
    refine ExAt.mono (fun i h _ => ⟨h.1, fun e => ?_⟩) _ _ (ExAt.kept (fun b cs t hb _ h => hkp b cs t hb.2.1 h) _ _ hC)
    have e' : i = g4 := by injection e
    rcases hg4 with hh | hh
    ·exact h.2.1 (by rw [hh, e'])
    ·have := h.2.2; omega
   have HX4 : Hid (ExAt (fun i => w.heap.size ≤ i ∧ some i ≠ (Value.slice (some ⟨g4, 0, none⟩) (k + 1) cap4).ownBlock) w4 (chain (xs ++ [t1])) (.tuple (ys ++ [Value.pointer (some ⟨vb, 0, none⟩)]).toArray)) := hX4
   have HG4 : Hid (Gr P w w4) := hG4
   have HA4 : Hid (At w4 P T o1 c1 (d + 1) l1) := HA.out.go hG4 hP4 HE2.out.1 (by have := HA0.out.deep; have := HE2.out.2; omega)
   have HO4 : Hid (w4.ownsRow w.heap.size 145 1 (.slice (some ⟨g4, 0, none⟩) (k + 1) cap4) (k + 1) (ys ++ [Value.pointer (some ⟨vb, 0, none⟩)])) := hown4
   clear hown4 hgrow4 hg4 hlt4 hW3 hsz4 hsz2 hgw hkp hG4 hP4 hX4 HO3 HN3 H13 HZ3 HX2 HX3 HO2 HBlk
   go_wp2_with (go_at_call 95; fail)
   refine (more_at HA4.out).mono ?_
   rintro e w5 (⟨b1, hv, rfl, hp, hg, he, hlt⟩ | ⟨hv1, hv2, ⟨a, rfl, ha⟩, hg⟩)
   rotate_left
   ·refine ⟨rfl, HG0.out _ _ ?_⟩
    rw [HM0.out, exV, HR.out]
    show ArPost w P T (cat xs (if (hd l1).t = [44] then _ else bnd (zh [41] l1) _)) _ _
    unfold zh
    rw [if_neg hv1, if_neg hv2]
    exact ⟨⟨a, rfl, ha⟩, HG4.out.trans hg⟩
   have HI5 : Hid (ArgI n d w P T l M b1 (.slice (some ⟨g4, 0, none⟩) (k + 1) cap4) (k + 1) w5) := by
    refine ⟨⟨xs ++ [t1], ys ++ [Value.pointer (some ⟨vb, 0, none⟩)], l1.tail, _, _, by simp [HK.out], ?_, own_gr HA4.out.ps hg HO4.out, qP HA4.out.ps hg HX4.out, hp, he, ?_, ?_, ?_⟩, HG4.out.trans hg⟩
    ·have := HF0.out; have := HE2.out.2; omega
    ·have := HF0.out; have := HE2.out.2; omega
    ·rintro rfl
     rw [HM0.out, exV, HR.out]
     have hv' : (hd l1).t = [41] := hv
     show cat xs (if (hd l1).t = [44] then _ else bnd (zh [41] l1) _) = _
     unfold zh
     rw [if_neg (by rw [hv']; decide), if_pos hv']
     show cat xs (.ok (cc t1 ce, l1.tail)) = _
     rw [← foldr_ce, List.foldr_append]
     rfl
    ·rintro rfl
     refine ⟨f, ?_, ?_, ?_⟩
     ·rw [HM0.out, exV, HR.out]
      have hv' : (hd l1).t = [44] := hv
      show cat xs (if (hd l1).t = [44] then bnd (exV f 7 0 d ce 0 l1.tail) _ else _) = _
      rw [if_pos hv']
      cases exV f 7 0 d ce 0 l1.tail with
      | error e => rfl
      | ok r => obtain ⟨g, l2⟩ := r; exact (cat_snoc xs t1 g l2).symm
     ·have := HF0.out; have := HE2.out.2; omega
     ·have := HF0.out; omega
   have HPL5 : Hid (plen P w5 < plen P wr) := by
    show _ < _
    rw [HPL.out, hp.plen]
    have := HE2.out.2
    omega
   clear hv hp hg he hlt
   go_wp2
   exact ⟨⟨b1, _, _, _, rfl, rfl, HI5.out⟩, HPL5.out⟩
structure AllEx (n : Nat) : Prop where
 bin : BinC n
 one : OneC n
 leaf : LeafC n
 held : HeldC n
 args : ArgsC n
theorem At.pos {w : World} {P T o c d : Nat} {l : List Tok} (h : At w P T o c d l) : 1 ≤ l.length := h.ends.pos
theorem idx_of {n : Nat} (h : ∀ m, m ≤ n → BinC m) : IdxC n := fun m hm d w P T o c l hA hl => by
 obtain ⟨k, rfl⟩ : ∃ k, m = k + 1 := ⟨m - 1, by omega⟩
 exact index_walk k (h k (by omega)) d w P T o c l hA (by omega)
theorem expr_of {n : Nat} (h : ∀ m, m ≤ n → BinC m) : ExprC n := fun m hm d w P T o c l hA hl => expr_walk m (h m hm) d w P T o c l hA hl
theorem all_ex : ∀ n m, m ≤ n → AllEx m
 | 0, m, hm => by
  obtain rfl : m = 0 := by omega
  exact ⟨fun lv d w P T o c l h h1 h2 h3 => by have := h.pos; omega, fun d w P T o c l h h3 => by have := h.pos; omega, fun d w P T o c l h h3 => by have := h.pos; omega, fun d w P T o c l h h3 => by have := h.pos; omega, fun d w P T o c l h h3 => by have := h.pos; omega⟩
 | n + 1, m, hm => by
  have ih := all_ex n
  by_cases hlt : m ≤ n
  ·exact ih m hlt
  obtain rfl : m = n + 1 := by omega
  have hB : BinC (n + 1) := fun lv d w P T o c l h h1 h2 h3 => by
   by_cases h7 : lv = 7
   ·subst h7
    exact bin_last n (ih n (Nat.le_refl _)).one d w P T o c l h (by omega)
   ·exact bin_walk n (fun m hm => (ih m hm).bin) lv d w P T o c l h h1 (by omega) h3
  have hBs : ∀ m, m ≤ n + 1 → BinC m := fun m hm => by
   by_cases h : m ≤ n
   ·exact (ih m h).bin
   ·obtain rfl : m = n + 1 := by omega
    exact hB
  have hH : HeldC (n + 1) := fun d w P T o c l h h3 => held_walk n (ih n (Nat.le_refl _)).bin d w P T o c l h h3
  have hL : LeafC (n + 1) := fun d w P T o c l h h3 => by
   by_cases k2 : (hd l).k = 2
   ·exact leaf_num n d w P T o c l h k2
   ·by_cases k0 : (hd l).k = 0
    ·exact leaf_name n (ih n (Nat.le_refl _)).args d w P T o c l h h3 k0
    ·exact leaf_rest n (ih n (Nat.le_refl _)).held d w P T o c l h h3 k2 k0
  have hO : OneC (n + 1) := fun d w P T o c l h h3 => by
   by_cases hk : d ≤ 12 ∨ (hd l).k = 3
   ·by_cases h1 : (hd l).t = [45]
    ·exact one_minus n (ih n (Nat.le_refl _)).one d w P T o c l h hk h3 ⟨#[45]⟩ h1 rfl
    ·by_cases h2 : (hd l).t = [33]
     ·exact one_not n (ih n (Nat.le_refl _)).one d w P T o c l h hk h3 ⟨#[33]⟩ h2 rfl
     ·exact one_leaf n (ih n (Nat.le_refl _)).leaf (idx_of fun m hm => (ih m hm).bin) d w P T o c l h hk h3 h1 h2
   ·exact one_deep n d w P T o c l h (by omega) (by omega)
  exact ⟨hB, hO, hL, hH, fun d w P T o c l h h3 => args_walk (n + 1) (expr_of hBs) d w P T o c l h h3⟩
theorem bin_all (n : Nat) : BinC n := (all_ex n n (Nat.le_refl _)).bin
theorem expr_all (n : Nat) : ExprC n := expr_of fun m _ => bin_all m
theorem idx_all (n : Nat) : IdxC n := idx_of fun m _ => bin_all m
theorem held_all (n : Nat) : HeldC n := (all_ex n n (Nat.le_refl _)).held
theorem args_all (n : Nat) : ArgsC n := (all_ex n n (Nat.le_refl _)).args
end Go.Proofs.YtnfhpdbbfejioaaGreatDoor
