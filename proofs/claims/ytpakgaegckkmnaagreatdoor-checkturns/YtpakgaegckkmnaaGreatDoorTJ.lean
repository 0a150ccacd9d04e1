/- bin: marks of two, one behind the other. -/
import Derived.Test.YtpakgaegckkmnaaGreatDoorTI
namespace Go.Proofs.YtpakgaegckkmnaaGreatDoor
set_option linter.unusedVariables false
set_option linter.unusedSimpArgs false
open Go Go.RowKit

structure BinI (n lv d : Nat) (w : World) (P T : Nat) (p : Nat) (l : List Tok) (M : R Tr) (v : Value) (wr : World) : Prop where
  at' : ∃ f t lc o' c', exV f 1 lv d t p lc = M ∧ 12 * lc.length ≤ f ∧ f ≤ n ∧ IsNd t ∧ ExAt (Fr w.heap.size) wr t v ∧ PS wr P T o' c' lc ∧ Ends lc ∧ lc.length ≤ l.length
  gr : Gr P w wr
theorem bin_new {S : Nat → Prop} {w : World} {p : Int} {m : By} {x : ByteArray} {t u : Tr} {v z : Value} (hx : str m = .string x) (hs : S w.heap.size) (h : ExAt S w t v) (g : ExAt S w u z) : ExAt S (w.alloc (.cells #[.int .i64 3, .int .i64 p, .int .i64 0, .string ⟨#[]⟩, .string x, v, z, .slice none 0 0] 134)) (nd 3 p 0 [] m t u ce) (.pointer (some ⟨w.heap.size, 0, none⟩)) := by
  rw [← hx]
  exact node_new hs h g
theorem near_at' {w : World} {P T o c d : Nat} {l : List Tok} (h : At w P T o c d l) (y : ByteArray) (hy : y.data.toList = (hd l).t) (W : World) (hb : Below w.heap.size w W) :
    Calls Tryz.prog 66 #[.string y] W fun e w' => e = .returned (.int .i64 (nearV (hd l).t : Nat)) ∧ Below w.heap.size w w' := by
  rw [← hy]
  exact (near_any y W (h.env.below hb)).mono fun e w' ⟨a, b⟩ => ⟨a, hb.trans (b.mono hb.size)⟩
theorem next_at {w : World} {P T o c d : Nat} {l : List Tok} (h : At w P T o c d l) (y : ByteArray) (hy : str (hd l).t = .string y) (hk : (hd l).t ≠ []) (W : World) (hb : Below w.heap.size w W) :
    Calls Tryz.prog 61 #[.pointer (some ⟨P, 0, none⟩)] W fun e w' => e = .returned (.agg #[.int .i64 ((hd l).k : Int), .string y, .int .i64 ((hd l).p : Int)]) ∧ PS w' P T (o + 3) (c - 1) l.tail ∧ Gr P w w' := by
  obtain ⟨e1, e2, e3, e4⟩ := h.ends.tail hk
  have hA := h.below hb
  rw [← hy]
  exact (next_any W P T o c (hd l) l.tail hA.psc e2).mono fun e w' ⟨a, b, g⟩ => ⟨a, b, (gr_below hb).trans g⟩

set_option maxRecDepth 100000 in
set_option maxHeartbeats 8000000 in
theorem bin_walk (n : Nat) (IB : ∀ m, m ≤ n → BinC m) (lv d : Nat) (w : World) (P T o c : Nat) (l : List Tok) (h : At w P T o c d l) (hlv1 : 1 ≤ lv) (hlv : lv ≤ 6) (hn : 12 * l.length + (10 - lv) ≤ n + 1) :
    Calls Tryz.prog 93 #[.pointer (some ⟨P, 0, none⟩), .int .i64 (lv : Int), .int .i64 (d : Int)] w (ExPost w P T (exV (n + 1) 0 lv d .nil 0 l)) := by
  obtain ⟨y, hy, hyt⟩ := str_y (hd l).t
  have HF : Hid (Calls Tryz.prog 28 #[.pointer (some ⟨P, 0, none⟩)] w fun e w' => e = .returned (.agg #[.int .i64 ((hd l).k : Int), .string y, .int .i64 ((hd l).p : Int)]) ∧ Below w.heap.size w w') := look_at h y hy w (Below.refl _ _)
  have HA : Hid (At w P T o c d l) := h
  have HN : Hid (12 * l.length + (10 - lv) ≤ n + 1) := hn
  have HLV : Hid (1 ≤ lv) := hlv1
  have HB1 : Hid (∀ m, m ≤ n → ∀ (w : World) (o c : Nat) (l : List Tok), At w P T o c d l → 12 * l.length + (9 - lv) ≤ m → Calls Tryz.prog 93 #[.pointer (some ⟨P, 0, none⟩), .int .i64 ((lv : Int) + 1), .int .i64 (d : Int)] w (ExPost w P T (exV m 0 (lv + 1) d .nil 0 l))) := fun m hm w o c l h hl => by
    have := IB m hm (lv + 1) d w P T o c l h (by omega) (by omega) (by omega)
    rw [show ((lv + 1 : Nat) : Int) = (lv : Int) + 1 by omega] at this
    exact this
  have HB2 : Hid (∀ m, m ≤ n → ∀ (w : World) (o c : Nat) (l : List Tok), At w P T o c d l → 12 * l.length + (9 - lv) ≤ m → Calls Tryz.prog 93 #[.pointer (some ⟨P, 0, none⟩), .int .i64 (IntKind.i64.wrap ((lv : Int) + 1)), .int .i64 (d : Int)] w (ExPost w P T (exV m 0 (lv + 1) d .nil 0 l))) := fun m hm w o c l h hl => by
    rw [i64_same (by omega) (by omega)]
    exact HB1.out m hm w o c l h hl
  have HM : Hid (exV (n + 1) 0 lv d .nil 0 l = bnd (exV n 0 (lv + 1) d .nil 0 l) fun y l1 => exV n 1 lv d y (hd l).p l1) := by
    show _ = _
    rw [exV, if_neg (by omega)]
  have HG0 : Hid (∀ e w', ExPost w P T (exV (n + 1) 0 lv d .nil 0 l) e w' → ExPost w P T (exV (n + 1) 0 lv d .nil 0 l) e w') := fun _ _ h => h
  generalize hG : ExPost w P T (exV (n + 1) 0 lv d .nil 0 l) = G at *
  clear HG0
  have HG0 : Hid (∀ e w', ExPost w P T (exV (n + 1) 0 lv d .nil 0 l) e w' → G e w') := fun e w' h => by rw [← hG]; exact h
  have h2 := fld2
  have h1 := fld1
  clear h hn hy hyt hG IB hlv1
  go_enter Tryz.func93, Tryz.ntmps93
  go_wp2_with (go_at_call 28; fail)
  refine HF.out.mono ?_
  rintro e w1 ⟨rfl, hb⟩
  have HBw1 : Hid (Below w.heap.size w w1) := hb
  clear hb
  go_wp2_with (go_at_call 93; fail)
  refine (HB1.out n (Nat.le_refl _) w1 o c l (HA.out.below HBw1.out) (by have := HN.out; omega)).mono ?_
  intro e w5 hpost
  rcases hpost.parts with ⟨t, l', v, o', c', hr, rfl, hx5, hp5, hg5⟩ | ⟨k, p, hr, ⟨a, rfl, ha⟩, hg5⟩
  rotate_left
  · refine ⟨rfl, HG0.out _ _ ?_⟩
    rw [HM.out, hr]
    exact ⟨⟨a, rfl, ha⟩, (gr_below HBw1.out).trans hg5⟩
  have hnd := ex_node n 0 (lv + 1) d .nil 0 l t l' (by omega) (by omega) hr
  obtain ⟨vb, rfl⟩ := IsNd.ptr hnd hx5
  obtain ⟨M, hMM⟩ : ∃ M, M = exV n 1 lv d t (hd l).p l' := ⟨_, rfl⟩
  obtain ⟨he5, hl5, -⟩ := ex_ends n 0 (lv + 1) d .nil 0 l t l' (fun h => by omega) HA.out.ends hr
  have HI0 : Hid (BinI n lv d w P T (hd l).p l M (.pointer (some ⟨vb, 0, none⟩)) w5) :=
    ⟨⟨n, t, l', o', c', hMM.symm, by have := HN.out; omega, Nat.le_refl _, hnd, hx5.old HBw1.out.size, hp5, he5, hl5⟩, (gr_below HBw1.out).trans hg5⟩
  have HMM : Hid (exV (n + 1) 0 lv d .nil 0 l = M) := by
    show _ = _
    rw [HM.out, hr, hMM]
    rfl
  clear hpost hr hx5 hp5 hg5 hMM he5 hl5 hnd HM
  go_wp2_with fail
  go_loopw [8] (fun v wr => ∃ vb : Nat, v = .pointer (some ⟨vb, 0, none⟩) ∧ Hid (BinI n lv d w P T (hd l).p l M (.pointer (some ⟨vb, 0, none⟩)) wr)) (fun _ wr => plen P wr)
  case atStart => exact ⟨vb, rfl, HI0.out⟩
  case round =>
    obtain ⟨b0, rfl, HI⟩ := hrel
    obtain ⟨⟨f, t0, lc, o0, c0, hM0, hf1, hf2, hnd0, hx0, hp0, he0, hl0⟩, hgr⟩ := HI.out
    obtain ⟨f, rfl⟩ : ∃ f', f = f' + 1 := ⟨f - 1, by have := he0.pos; omega⟩
    have HM0 : Hid (exV (f + 1) 1 lv d t0 (hd l).p lc = M) := hM0
    have HPL : Hid (plen P wr = lc.length) := hp0.plen
    have HA0 : Hid (At wr P T o0 c0 d lc) := HA.out.go hgr hp0 he0 (by have := HA.out.deep; omega)
    have HF0 : Hid (12 * lc.length ≤ f + 1 ∧ f + 1 ≤ n ∧ lc.length ≤ l.length) := ⟨hf1, hf2, hl0⟩
    have HX0 : Hid (ExAt (Fr w.heap.size) wr t0 (.pointer (some ⟨b0, 0, none⟩))) := hx0
    have HGR : Hid (Gr P w wr) := hgr
    clear hM0 hf1 hf2 hnd0 hx0 hp0 he0 hl0 hgr HI HI0
    obtain ⟨z, hz, hzt⟩ := str_y (hd lc).t
    have HZ : Hid (str (hd lc).t = .string z) := hz
    have HZT : Hid (z.data.toList = (hd lc).t) := hzt
    clear hz hzt
    go_wp2_with (go_at_call 28; fail)
    refine (look_at HA0.out z HZ.out wr (Below.refl _ _)).mono ?_
    rintro e w6 ⟨rfl, hb6⟩
    have HB6 : Hid (Below wr.heap.size wr w6) := hb6
    clear hb6
    go_wp2_with (go_at_call 66; fail)
    refine (near_at' HA0.out z HZT.out w6 HB6.out).mono ?_
    rintro e w7 ⟨rfl, hb7⟩
    have HB7 : Hid (Below wr.heap.size wr w7) := hb7
    clear hb7 HB6
    by_cases hnear : nearV (hd lc).t = lv
    rotate_left
    · have hbe : (((nearV (hd lc).t : Nat) : Int) == (lv : Int)) = false := by simp; omega
      have HV6 : Hid (¬ nearV (hd lc).t = lv) := hnear
      have HX6 : Hid (ExAt (Fr w.heap.size) w7 t0 (.pointer (some ⟨b0, 0, none⟩))) := ex_kept HA0.out.ps (gr_below HB7.out) HX0.out
      have HP6 : Hid (PS w7 P T o0 c0 lc) := HA0.out.ps.below HB7.out
      have HG6 : Hid (Gr P w w7) := HGR.out.trans (gr_below HB7.out)
      clear hnear
      generalize ((nearV (hd lc).t : Nat) : Int) = nv at *
      go_wp2
      refine HG0.out _ _ ?_
      rw [HMM.out, ← HM0.out, exV, if_neg HV6.out]
      exact ⟨⟨_, _, _, rfl, HX6.out, HP6.out⟩, HG6.out⟩
    have hbe : (((nearV (hd lc).t : Nat) : Int) == (lv : Int)) = true := by simp; omega
    have HV6 : Hid (nearV (hd lc).t = lv) := hnear
    have HTN : Hid ((hd lc).t ≠ []) := fun e => by
      rw [e] at hnear
      have h0 : nearV [] = 0 := by decide
      have := HLV.out
      omega
    clear hnear
    generalize ((nearV (hd lc).t : Nat) : Int) = nv at *
    go_wp2_with (go_at_call 61; fail)
    refine (next_at HA0.out z HZ.out HTN.out w7 HB7.out).mono ?_
    rintro e w8 ⟨rfl, hp, hg⟩
    obtain ⟨he, -, -, hlt⟩ := HA0.out.ends.tail HTN.out
    have HX8 : Hid (ExAt (Fr w.heap.size) w8 t0 (.pointer (some ⟨b0, 0, none⟩))) := ex_kept HA0.out.ps hg HX0.out
    have HGd : Hid (Gr P wr w8) := hg
    have HA8 : Hid (At w8 P T (o0 + 3) (c0 - 1) d lc.tail) := HA0.out.go HGd.out hp he (by have := HA0.out.deep; omega)
    have HL6 : Hid (12 * lc.tail.length + (9 - lv) ≤ f) := by show _ ≤ _; have := HF0.out; omega
    have HL7 : Hid (lc.tail.length < lc.length) := hlt
    clear hp hg he hlt hbe
    go_wp2_with (go_at_call 93; fail)
    refine (HB1.out f (by have := HF0.out; omega) _ _ _ lc.tail HA8.out HL6.out).mono ?_
    intro e w9 hpost
    rcases hpost.parts with ⟨t1, l1, v1, o1, c1, hr, rfl, hx7, hp7, hg7⟩ | ⟨k, p, hr, ⟨a, rfl, ha⟩, hg7⟩
    rotate_left
    · refine ⟨rfl, HG0.out _ _ ?_⟩
      rw [HMM.out, ← HM0.out, exV, if_pos HV6.out, hr]
      exact ⟨⟨a, rfl, ha⟩, HGR.out.trans (HGd.out.trans hg7)⟩
    obtain ⟨vb1, rfl⟩ := IsNd.ptr (ex_node f 0 (lv + 1) d .nil 0 lc.tail t1 l1 (by omega) (by omega) hr) hx7
    have HR : Hid (exV f 0 (lv + 1) d .nil 0 lc.tail = .ok (t1, l1)) := hr
    have HX9 : Hid (ExAt (Fr w.heap.size) w9 t1 (.pointer (some ⟨vb1, 0, none⟩))) := hx7.old (HGR.out.trans HGd.out).size
    have HXA : Hid (ExAt (Fr w.heap.size) w9 t0 (.pointer (some ⟨b0, 0, none⟩))) := ex_kept HA8.out.ps hg7 HX8.out
    have HP9 : Hid (PS w9 P T o1 c1 l1) := hp7
    have HG9 : Hid (Gr P w w9) := HGR.out.trans (HGd.out.trans hg7)
    clear hpost hr hx7 hp7 hg7
    go_wp2
    obtain ⟨he8, hl8, -⟩ := ex_ends f 0 (lv + 1) d .nil 0 lc.tail t1 l1 (fun h => by omega) HA8.out.ends HR.out
    have hps := HP9.out.below ((Below.refl _ _).alloc (Nat.le_refl _) (.cells #[.int .i64 3, .int .i64 ((hd l).p : Int), .int .i64 0, .string ⟨#[]⟩, .string z, .pointer (some ⟨b0, 0, none⟩), .pointer (some ⟨vb1, 0, none⟩), .slice none 0 0] 134))
    refine ⟨⟨w9.heap.size, rfl, ?_⟩, ?_⟩
    · refine ⟨⟨f, _, l1, o1, c1, ?_, ?_, ?_, isNd _ _ _ _ _ _ _ _, bin_new HZ.out HG9.out.size HXA.out HX9.out, hps, he8, ?_⟩, HG9.out.alloc _⟩
      · rw [← HM0.out, exV, if_pos HV6.out, HR.out]
        rfl
      · have := HF0.out; have := HL7.out; omega
      · have := HF0.out; omega
      · have := HF0.out; have := HL7.out; omega
    · rw [HPL.out, hps.plen]
      have := HL7.out
      omega
end Go.Proofs.YtpakgaegckkmnaaGreatDoor
