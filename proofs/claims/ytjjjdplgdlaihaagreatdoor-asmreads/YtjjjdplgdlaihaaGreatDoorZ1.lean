/- AsmReads, walked. -/
import Derived.Test.YtjjjdplgdlaihaaGreatDoorZ0
import Derived.Deep.QuietTactic
import Derived.BigQuiet
namespace Go.Proofs.YtjjjdplgdlaihaaGreatDoor
set_option linter.unusedVariables false
set_option linter.unusedSimpArgs false
open Go Go.RowKit

set_option maxHeartbeats 2000000 in
theorem reads_long (s : ByteArray) (w : World) (q : Option Addr) (L c : Nat) (h : 1200 < s.size ∨ 40 < L) :
    Calls Tryz.prog 3 #[.string s, .slice q L c] w fun e w' => e = .returned (.bool true) ∧ Below w.heap.size w w' := by
  by_cases h1 : 1200 < s.size
  · have h1' : (1200 : Int) < s.size := by omega
    go_enter Tryz.func3, Tryz.ntmps3
    go_wp2
    go_ret
    exact ⟨rfl, Below.refl _ _⟩
  · have h1' : ¬ (1200 : Int) < s.size := by omega
    have h2 : (40 : Int) < L := by omega
    go_enter Tryz.func3, Tryz.ntmps3
    go_wp2
    go_ret
    exact ⟨rfl, Below.refl _ _⟩

/-- What is in memory behind so many instructions. -/
structure RW (w : World) (q : Option Addr) (l : List Dr) (bF k : Nat) (v9 : Value) (W : World) : Prop where
  f : W.heap[bF]? = some (.cells #[.int .i64 (fltV (badAt l k)).1, .int .i64 (fltV (badAt l k)).2] 25)
  r9 : W.ownsRow (bF + 1) 43 1 v9 k ((l.take k).map wdD)
  low : Below w.heap.size w W
  bl : w.heap.size ≤ bF
theorem RW.lt {w W : World} {q : Option Addr} {l : List Dr} {bF k : Nat} {v9 : Value} (h : RW w q l bF k v9 W) : bF < W.heap.size := (Array.getElem?_eq_some_iff.1 h.f).1
theorem RW.kept {w W W' : World} {q : Option Addr} {l : List Dr} {bF k : Nat} {v9 : Value} (h : RW w q l bF k v9 W) (hb : Below W.heap.size W W') : RW w q l bF k v9 W' := by
  have hl := h.lt
  have hbl := h.bl
  exact ⟨by rw [hb.block _ hl]; exact h.f, h.r9.kept (grown_none hb) (by cases v9.ownBlock <;> simp), h.low.trans (hb.mono (by omega)), h.bl⟩

theorem RW.next {w W W' : World} {q : Option Addr} {l : List Dr} {bF k : Nat} {v9 v' : Value} (h : RW w q l bF k v9 W) {d : Dr} (hd : l[k]? = some d) (hf : W'.heap[bF]? = some (.cells #[.int .i64 (fltV (badAt l (k + 1))).1, .int .i64 (fltV (badAt l (k + 1))).2] 25))
    (r9 : W'.ownsRow (bF + 1) 43 1 v' (k + 1) ((l.take k).map wdD ++ [wdD d])) (hb : Below bF W W') : RW w q l bF (k + 1) v' W' := by
  refine ⟨hf, ?_, h.low.trans (hb.mono h.bl), h.bl⟩
  obtain ⟨hk, rfl⟩ := List.getElem?_eq_some_iff.1 hd
  rw [List.take_succ_eq_append_getElem hk, List.map_append]
  exact r9
theorem flt_none : fltV none = (0, -1) := rfl
theorem flt_some (i : Nat) : fltV (some i) = (1, (i : Int)) := rfl

set_option maxRecDepth 100000 in
set_option maxHeartbeats 8000000 in
theorem reads_any (s : ByteArray) (w : World) (he : Env w) (hF : FineT w) (hT : ErrT w) (h11 : 11 ≤ w.heap.size) (hs : s.size ≤ 1200) (q : Option Addr) (c : Nat) (l : List Dr) (hl : Sl w q l) (hlen : l.length ≤ 40)
    (hbl : ∀ d ∈ l, -9223372036854775808 ≤ d.n ∧ d.n ≤ 9223372036854775807) :
    Calls Tryz.prog 3 #[.string s, .slice q l.length c] w fun e w' => e = .returned (.bool true) ∧ Below w.heap.size w w' := by
  obtain ⟨i9, hi9, hz9, hs9, hb9⟩ := info_parts info43
  obtain ⟨L, hL⟩ : ∃ L, L = l.length := ⟨_, rfl⟩
  have hB := both_any s w he hF hT h11 hs
  rw [← hL] at hlen ⊢
  have HL : Hid (L = l.length) := hL
  have HE : Hid (∀ w', Below w.heap.size w w' → Env w') := fun w' hb => he.below hb
  have HF : Hid (∀ w', Below w.heap.size w w' → FineT w') := fun w' hb => by
    have h0 := World.block_lt_of_cell? w _ hF.1
    exact ⟨(hb.cell (p := ⟨0, 0, none⟩) h0).trans hF.1, (hb.cell (p := ⟨0, 1, none⟩) h0).trans hF.2⟩
  have HT : Hid (∀ w', Below w.heap.size w w' → ErrT w') := fun w' hb => hT.below hb
  have HSl : Hid (∀ w', Below w.heap.size w w' → Sl w' q l) := fun w' hb => hl.below hb
  have HBl : Hid (∀ d ∈ l, -9223372036854775808 ≤ d.n ∧ d.n ≤ 9223372036854775807) := hbl
  have HBo : Hid (Both s w) := hB
  have HNm : Hid (∀ W, Calls Tryz.prog 9 #[.string s] W fun e w' => e = .returned (.bool (nameV s.data.toList)) ∧ w' = W) := fun W => name_any s W (by omega)
  have HPn : Hid (∀ W, Calls Tryz.prog 10 #[.string s] W fun e w' => e = .returned (.bool (nameV s.data.toList)) ∧ w' = W) := fun W => place_doc s W (by omega)
  have hs' : ¬ (1200 : Int) < s.size := by omega
  have hL' : ¬ (40 : Int) < L := by omega
  have h0w : 0 < w.heap.size := by omega
  clear hB hL he hF hT hl hbl
  generalize nameV s.data.toList = nb at *
  go_enter Tryz.func3, Tryz.ntmps3
  go_wp2_with (go_at_call 5; fail)
  refine Calls.mono HBo.out ?_
  rintro e w1 ⟨⟨q5, n5, c5, kf, jf, rfl, h6⟩, hb1⟩
  have H6 : Hid (Calls Tryz.prog 6 #[.string s] (w1.alloc (.cells #[.int .i64 kf, .int .i64 jf] 25)) fun e w2 => (∃ (q7 : Option Addr) (n7 c7 : Nat) (ev : Value), e = .returned (.tuple #[.slice q7 n7 c7, ev]) ∧
      ∀ W2, Below w2.heap.size w2 W2 → (Calls Tryz.prog 7 #[ev, .agg #[.int .i64 kf, .int .i64 jf]] W2 fun e w' => e = .returned (.bool true) ∧ Below W2.heap.size W2 w') ∧ (Calls Tryz.prog 8 #[.slice q7 n7 c7, .slice q5 n5 c5] W2 fun e w' => e = .returned (.bool true) ∧ Below W2.heap.size W2 w')) ∧ Below (w1.alloc (.cells #[.int .i64 kf, .int .i64 jf] 25)).heap.size (w1.alloc (.cells #[.int .i64 kf, .int .i64 jf] 25)) w2) := h6 (w1.alloc (.cells #[.int .i64 kf, .int .i64 jf] 25)) ((Below.refl _ _).alloc (Nat.le_refl _) _)
  have HB1 : Hid (Below w.heap.size w w1) := hb1
  clear h6 hb1
  go_wp2_with (go_at_call 6; fail)
  refine H6.out.mono ?_
  rintro e w2 ⟨⟨q7, n7, c7, ev, rfl, h7⟩, hb2⟩
  have H7 : Hid (∀ W2, Below w2.heap.size w2 W2 → (Calls Tryz.prog 7 #[ev, .agg #[.int .i64 kf, .int .i64 jf]] W2 fun e w' => e = .returned (.bool true) ∧ Below W2.heap.size W2 w') ∧ (Calls Tryz.prog 8 #[.slice q7 n7 c7, .slice q5 n5 c5] W2 fun e w' => e = .returned (.bool true) ∧ Below W2.heap.size W2 w')) := h7
  have hsz2 : w1.heap.size + 1 ≤ w2.heap.size := by have := hb2.size; simp at this; omega
  have G2 : w2.heap[w1.heap.size]? = some (.cells #[.int .i64 kf, .int .i64 jf] 25) := by rw [hb2.block _ (by simp)]; exact heap_alloc_last w1 _
  have HG2 : Hid (w2.heap[w1.heap.size]? = some (.cells #[.int .i64 kf, .int .i64 jf] 25)) := G2
  have HB2 : Hid (Below w.heap.size w w2) := (HB1.out.alloc HB1.out.size _).trans (hb2.mono (by have := HB1.out.size; simp; omega))
  have k0 : w2.cell? ⟨w1.heap.size, 0, none⟩ = some (.int .i64 kf) := by rw [cell_of_row _ _ _ _ _ _ G2]; rfl
  have k1 : w2.cell? ⟨w1.heap.size, 1, none⟩ = some (.int .i64 jf) := by rw [cell_of_row _ _ _ _ _ _ G2]; rfl
  clear h7 hb2 G2 H6
  go_wp2_with (go_at_call 7; fail)
  refine ((H7.out _ (Below.refl _ _)).1).mono ?_
  rintro e w3 ⟨rfl, hb3⟩
  have HB3 : Hid (Below w2.heap.size w2 w3) := hb3
  clear hb3
  go_wp2_with (go_at_call 8; fail)
  refine ((H7.out _ HB3.out).2).mono ?_
  rintro e w4 ⟨rfl, hb4⟩
  have HB4 : Hid (Below w2.heap.size w2 w4) := HB3.out.trans (hb4.mono HB3.out.size)
  have G4 : w4.heap[w1.heap.size]? = some (.cells #[.int .i64 kf, .int .i64 jf] 25) := by rw [HB4.out.block _ (by omega)]; exact HG2.out
  have HG4 : Hid (w4.heap[w1.heap.size]? = some (.cells #[.int .i64 kf, .int .i64 jf] 25)) := G4
  have m0 : w4.cell? ⟨w1.heap.size, 0, none⟩ = some (.int .i64 kf) := by rw [cell_of_row _ _ _ _ _ _ G4]; rfl
  have m1 : w4.cell? ⟨w1.heap.size, 1, none⟩ = some (.int .i64 jf) := by rw [cell_of_row _ _ _ _ _ _ G4]; rfl
  have m2 := row_free G4 0
  have m3 := row_free G4 1
  have HB4w : Hid (Below w.heap.size w w4) := HB2.out.trans (HB4.out.mono HB2.out.size)
  obtain ⟨F0, F1⟩ := HF.out _ HB4w.out
  clear hb4 G4 HB3 k0 k1
  go_wp2_with (first | (go_at_call 9; refine (HNm.out _).mono ?_; rintro e w5 ⟨rfl, rfl⟩) | (go_at_call 10; refine (HPn.out _).mono ?_; rintro e w5 ⟨rfl, rfl⟩))
  have HW0 : Hid (RW w q l w1.heap.size 0 (.slice none 0 0) ((w5.setCell ⟨w1.heap.size, 0, none⟩ (.int .i64 0)).setCell ⟨w1.heap.size, 1, none⟩ (.int .i64 (-1)))) :=
    ⟨heap_setCell_same _ _ _ _ _ _ (heap_setCell_same _ _ _ _ _ _ HG4.out), World.ownsRow_nil _ _ _ _, (HB4w.out.setCell (p := ⟨w1.heap.size, 0, none⟩) HB1.out.size _).setCell (p := ⟨w1.heap.size, 1, none⟩) HB1.out.size _, HB1.out.size⟩
  obtain ⟨bF, hbF⟩ : ∃ bF, bF = w1.heap.size := ⟨_, rfl⟩
  have hbw : w.heap.size ≤ bF := by rw [hbF]; exact HB1.out.size
  rw [← hbF] at HW0 ⊢
  clear m0 m1 m2 m3 F0 F1 HBo H7 HG2 HG4 HB1 HB2 HB4 HB4w hsz2 hbF HNm HPn hs' hL'
  go_loopw [9, 10] (fun v9 i wr => ∃ k : Nat, k ≤ L ∧ i = .int .i64 k ∧ Hid (RW w q l bF k v9 wr)) (fun _ i _ => L - (intOf i).toNat)
  case atStart => exact ⟨0, Nat.zero_le _, rfl, HW0.out⟩
  case round =>
    obtain ⟨k, hk, rfl, HR⟩ := hrel
    by_cases hlt : k < L
    · obtain ⟨d, hd⟩ : ∃ d, l[k]? = some d := ⟨_, List.getElem?_eq_getElem (by rw [← HL.out]; exact hlt)⟩
      obtain ⟨g, p, hq, _⟩ := HSl.out wr HR.out.low
      have hq' := hq (by rw [← HL.out]; omega)
      subst hq'
      obtain ⟨o1, d1, a1, b1, n1, pl1⟩ := d
      have HFv : Hid (∀ W, Below w.heap.size w W → W.cell? ⟨g, p + k * 5, none⟩ = some (.int .i64 o1) ∧ W.cell? ⟨g, p + k * 5 + 1, none⟩ = some (.int .i64 d1) ∧ W.cell? ⟨g, p + k * 5 + 2, none⟩ = some (.int .i64 a1) ∧ W.cell? ⟨g, p + k * 5 + 3, none⟩ = some (.int .i64 b1) ∧ W.cell? ⟨g, p + k * 5 + 4, none⟩ = some (.int .i64 n1)) := fun W hb => by
        obtain ⟨g', p', hq2, h5⟩ := HSl.out W hb
        have := hq2 (by rw [← HL.out]; omega)
        injection this with this
        injection this with e1 e2
        subst e1; subst e2
        obtain ⟨x0, x1, x2, x3, x4⟩ := h5 k _ hd
        exact ⟨x0, x1, x2, x3, x4⟩
      have hn := HBl.out _ (List.mem_of_getElem? hd)
      simp only at hn
      have HD : Hid (l[k]? = some ⟨o1, d1, a1, b1, n1, pl1⟩) := hd
      have HNx : Hid (∀ W, Below wr.heap.size wr W → RW w (some ⟨g, p, none⟩) l bF k u9 W) := fun W hb => HR.out.kept hb
      obtain ⟨x0, x1, x2, x3, x4⟩ := HFv.out wr HR.out.low
      clear hd hq
      cases hrt : Rt o1 d1 a1 b1 n1 with
      | true =>
        obtain ⟨tb, htb⟩ : ∃ tb : ByteArray, tb = ⟨(prV ⟨o1, d1, a1, b1, n1, []⟩).toArray⟩ := ⟨_, rfl⟩
        have H11 : Hid (Calls Tryz.prog 11 #[instV o1 d1 a1 b1 n1] wr fun e w' => e = .returned (.tuple #[.string tb, .int .i64 0]) ∧ RW w (some ⟨g, p, none⟩) l bF k u9 w') := by
          rw [htb]
          exact (printdoc_yes o1 d1 a1 b1 n1 wr (HE.out _ HR.out.low) hrt hn.1 hn.2).mono fun e w' ⟨a, b⟩ => ⟨a, HNx.out _ b⟩
        have H12 : Hid (∀ W, RW w (some ⟨g, p, none⟩) l bF k u9 W → Calls Tryz.prog 12 #[instV o1 d1 a1 b1 n1] W fun e w' => e = .returned (.tuple #[.string tb, .nilIface]) ∧ RW w (some ⟨g, p, none⟩) l bF k u9 w') := fun W h => by
          obtain ⟨h1, h2, _⟩ := Rt_split hrt
          obtain ⟨o, rfl⟩ := Int.eq_ofNat_of_zero_le (show 0 ≤ o1 by omega)
          rw [htb]
          exact (print_yes o d1 a1 b1 n1 W (HE.out _ h.low) hrt hn.1 hn.2).mono fun e w' ⟨a, b⟩ => ⟨a, h.kept b⟩
        have H13 : Hid (∀ W, RW w (some ⟨g, p, none⟩) l bF k u9 W → Calls Tryz.prog 13 #[.nilIface, .int .i64 0] W fun e w' => e = .returned (.bool true) ∧ RW w (some ⟨g, p, none⟩) l bF k u9 w') := fun W h =>
          (bare_nil 0 W (HT.out _ h.low)).mono fun e w' ⟨a, b⟩ => ⟨a, h.kept b⟩
        have H14 : Hid (∀ W, RW w (some ⟨g, p, none⟩) l bF k u9 W → Calls Tryz.prog 14 #[instV o1 d1 a1 b1 n1] W fun e w' => e = .returned (.tuple #[.int .u32 (Wd o1 d1 a1 b1 n1), .int .i64 0]) ∧ RW w (some ⟨g, p, none⟩) l bF k u9 w') := fun W h =>
          (encdoc_ok o1 d1 a1 b1 n1 W hrt).mono fun e w' ⟨a, b⟩ => ⟨a, h.kept b⟩
        have HWd : Hid (wdD ⟨o1, d1, a1, b1, n1, pl1⟩ = .int .u32 (Wd o1 d1 a1 b1 n1)) := by
          show Value.int .u32 (if rtD ⟨o1, d1, a1, b1, n1, pl1⟩ then _ else _) = _
          rw [if_pos (by exact hrt)]
        have HBd : Hid (badAt l (k + 1) = badAt l k) := bad_yes HD.out hrt
        clear htb hrt
        generalize Wd o1 d1 a1 b1 n1 = Wv at *
        go_wp2_with (first
          | (go_at_call 11; refine H11.out.mono ?_; rintro e w5 ⟨rfl, hw⟩; have HR5 : Hid (RW w (some ⟨g, p, none⟩) l bF k u9 w5) := hw; obtain ⟨y0, y1, y2, y3, y4⟩ := HFv.out w5 hw.low; clear hw)
          | (go_at_call 12; refine (H12.out _ HR5.out).mono ?_; rintro e w6 ⟨rfl, hw⟩; have HR6 : Hid (RW w (some ⟨g, p, none⟩) l bF k u9 w6) := hw; clear hw)
          | (go_at_call 13; refine (H13.out _ HR6.out).mono ?_; rintro e w7 ⟨rfl, hw⟩; have HR7 : Hid (RW w (some ⟨g, p, none⟩) l bF k u9 w7) := hw; obtain ⟨z0, z1, z2, z3, z4⟩ := HFv.out w7 hw.low; clear hw)
          | (go_at_call 14; fail))
        refine (H14.out _ HR7.out).mono ?_
        rintro e w8 ⟨rfl, hw⟩
        have HR8 : Hid (RW w (some ⟨g, p, none⟩) l bF k u9 w8) := hw
        clear hw
        have HW8 : Hid ((w8.alloc (.cells #[.int .u32 Wv] 43)).ownsRow (bF + 1) 43 1 u9 k ((l.take k).map wdD)) := HR8.out.r9.alloc _
        have HN8 : Hid (∀ (j : Nat) (x : Value), [Value.int .u32 Wv][j]? = some x → (w8.alloc (.cells #[.int .u32 Wv] 43)).cell? ((⟨w8.heap.size, 0, none⟩ : Addr).add j) = some x) := World.news_of_block (cs := #[.int .u32 Wv]) (t := 43) (fr := (0, 0)) (heap_alloc_last w8 _)
        have H18 : Hid (∀ u ∈ [Value.int .u32 Wv], u.oneCell' = true) := fun u hu => by simp at hu; subst hu; rfl
        have HZ8 : Hid (bF + 1 ≤ (w8.alloc (.cells #[.int .u32 Wv] 43)).heap.size) := by show _ ≤ _; have := HR8.out.lt; simp; omega
        go_wp2_with (at_builtin; refine wpList_append_own _ rfl _ _ 35 rfl (bF + 1) 43 i9 _ 1 4 Tryz.underlying35 hi9 hz9 hs9 hb9 rfl (by decide) _ k _ rfl HW8.out ⟨w8.heap.size, 0, none⟩ 1 1 [.int .u32 Wv] rfl rfl HN8.out H18.out (by unfold maxLen; omega) (by omega) HZ8.out ?_)
        intro v9 w9 hown9 hgrow9 _
        have hlt8 := HR8.out.lt
        have hB9 : Below (bF + 1) (w8.alloc (.cells #[.int .u32 Wv] 43)) w9 := (Below.refl _ _).grown hgrow9 HZ8.out (fun j ej => (HW8.out.lt j ej).1)
        have HEnd : Hid (RW w (some ⟨g, p, none⟩) l bF (k + 1) v9 w9) := by
          refine HR8.out.next HD.out ?_ (by rw [HWd.out, List.map_take]; exact hown9) ?_
          · rw [hB9.block _ (by omega)]
            exact row_alloc (by rw [HBd.out]; exact HR8.out.f) _
          · exact (((Below.refl bF w8).alloc (by omega) _).trans (hB9.mono (by omega)))
        clear hown9 hgrow9 hB9
        go_wp2
        exact ⟨⟨k + 1, by omega, by go_num, HEnd⟩, by simp [intOf]; omega⟩
      | false =>
        have H11 : Hid (Calls Tryz.prog 11 #[instV o1 d1 a1 b1 n1] wr fun e w' => e = .returned (.tuple #[.string ⟨#[]⟩, .int .i64 1]) ∧ RW w (some ⟨g, p, none⟩) l bF k u9 w') :=
          (printdoc_no o1 d1 a1 b1 n1 wr hrt).mono fun e w' ⟨a, b⟩ => ⟨a, HNx.out _ b⟩
        have H12 : Hid (∀ W, RW w (some ⟨g, p, none⟩) l bF k u9 W → Calls Tryz.prog 12 #[instV o1 d1 a1 b1 n1] W fun e w' => e = .returned (.tuple #[.string ⟨#[]⟩, .iface 23 (.int .i64 1)]) ∧ RW w (some ⟨g, p, none⟩) l bF k u9 w') := fun W h =>
          (print_no o1 d1 a1 b1 n1 W (HE.out _ h.low) hrt).mono fun e w' ⟨a, b⟩ => ⟨a, h.kept b⟩
        have H13 : Hid (∀ W, RW w (some ⟨g, p, none⟩) l bF k u9 W → Calls Tryz.prog 13 #[.iface 23 (.int .i64 1), .int .i64 1] W fun e w' => e = .returned (.bool true) ∧ RW w (some ⟨g, p, none⟩) l bF k u9 w') := fun W h =>
          (bare_err 1 1 W (HT.out _ h.low)).mono fun e w' ⟨a, b⟩ => ⟨a, h.kept b⟩
        have H14 : Hid (∀ W, RW w (some ⟨g, p, none⟩) l bF k u9 W → Calls Tryz.prog 14 #[instV o1 d1 a1 b1 n1] W fun e w' => e = .returned (.tuple #[.int .u32 0, .int .i64 1]) ∧ RW w (some ⟨g, p, none⟩) l bF k u9 w') := fun W h =>
          (encdoc_no o1 d1 a1 b1 n1 W hrt).mono fun e w' ⟨a, b⟩ => ⟨a, h.kept b⟩
        have HWd : Hid (wdD ⟨o1, d1, a1, b1, n1, pl1⟩ = .int .u32 0) := by
          show Value.int .u32 (if rtD ⟨o1, d1, a1, b1, n1, pl1⟩ then _ else _) = _
          rw [if_neg (by show ¬ Rt o1 d1 a1 b1 n1 = true; rw [hrt]; decide)]
        cases hb0 : badAt l k with
        | none =>
          have HB0 : Hid (badAt l k = none) := hb0
          have HBd : Hid (badAt l (k + 1) = some k) := bad_no HD.out hrt hb0
          clear hb0
          clear hrt
          go_wp2_with (first
          | (go_at_call 11; refine H11.out.mono ?_; rintro e w5 ⟨rfl, hw⟩; have HR5 : Hid (RW w (some ⟨g, p, none⟩) l bF k u9 w5) := hw; obtain ⟨y0, y1, y2, y3, y4⟩ := HFv.out w5 hw.low; clear hw)
          | (go_at_call 12; refine (H12.out _ HR5.out).mono ?_; rintro e w6 ⟨rfl, hw⟩; have HR6 : Hid (RW w (some ⟨g, p, none⟩) l bF k u9 w6) := hw; clear hw)
          | (go_at_call 13; refine (H13.out _ HR6.out).mono ?_; rintro e w7 ⟨rfl, hw⟩; have HR7 : Hid (RW w (some ⟨g, p, none⟩) l bF k u9 w7) := hw; obtain ⟨z0, z1, z2, z3, z4⟩ := HFv.out w7 hw.low; clear hw)
          | (go_at_call 14; fail))
          refine (H14.out _ HR7.out).mono ?_
          rintro e w8 ⟨rfl, hw⟩
          have HR8 : Hid (RW w (some ⟨g, p, none⟩) l bF k u9 w8) := hw
          obtain ⟨F0, F1⟩ := HF.out _ hw.low
          have G8 := hw.f
          rw [HB0.out] at G8
          have G8 : w8.heap[bF]? = some (.cells #[.int .i64 0, .int .i64 (-1)] 25) := G8
          have t0 : w8.cell? ⟨bF, 0, none⟩ = some (.int .i64 0) := by rw [cell_of_row _ _ _ _ _ _ G8]; rfl
          have t1 : w8.cell? ⟨bF, 1, none⟩ = some (.int .i64 (-1)) := by rw [cell_of_row _ _ _ _ _ _ G8]; rfl
          have t2 := row_free G8 0
          have t3 := row_free G8 1
          have HG8 : Hid (w8.heap[bF]? = some (.cells #[.int .i64 0, .int .i64 (-1)] 25)) := G8
          clear hw G8
          have HW8 : Hid ((((w8.setCell ⟨bF, 0, none⟩ (.int .i64 1)).setCell ⟨bF, 1, none⟩ (.int .i64 (k : Int))).alloc (.cells #[.int .u32 0] 43)).ownsRow (bF + 1) 43 1 u9 k ((l.take k).map wdD)) := (ownsRow_setCell_below (ownsRow_setCell_below HR8.out.r9 (show bF < bF + 1 by omega) _) (show bF < bF + 1 by omega) _).alloc _
          have HN8 : Hid (∀ (j : Nat) (x : Value), [Value.int .u32 0][j]? = some x → (((w8.setCell ⟨bF, 0, none⟩ (.int .i64 1)).setCell ⟨bF, 1, none⟩ (.int .i64 (k : Int))).alloc (.cells #[.int .u32 0] 43)).cell? ((⟨w8.heap.size, 0, none⟩ : Addr).add j) = some x) := World.news_of_block (cs := #[.int .u32 0]) (t := 43) (fr := (0, 0)) (by have := heap_alloc_last ((w8.setCell ⟨bF, 0, none⟩ (.int .i64 1)).setCell ⟨bF, 1, none⟩ (.int .i64 (k : Int))) (.cells #[.int .u32 0] 43); simpa using this)
          have H18 : Hid (∀ u ∈ [Value.int .u32 0], u.oneCell' = true) := fun u hu => by simp at hu; subst hu; rfl
          have HZ8 : Hid (bF + 1 ≤ (((w8.setCell ⟨bF, 0, none⟩ (.int .i64 1)).setCell ⟨bF, 1, none⟩ (.int .i64 (k : Int))).alloc (.cells #[.int .u32 0] 43)).heap.size) := by show _ ≤ _; have := HR8.out.lt; simp; omega
          go_wp2_with (at_builtin; refine wpList_append_own _ rfl _ _ 35 rfl (bF + 1) 43 i9 _ 1 4 Tryz.underlying35 hi9 hz9 hs9 hb9 rfl (by decide) _ k _ rfl HW8.out ⟨w8.heap.size, 0, none⟩ 1 1 [.int .u32 0] rfl rfl HN8.out H18.out (by unfold maxLen; omega) (by omega) HZ8.out ?_)
          intro v9 w9 hown9 hgrow9 _
          have hlt8 := HR8.out.lt
          have hB9 : Below (bF + 1) (((w8.setCell ⟨bF, 0, none⟩ (.int .i64 1)).setCell ⟨bF, 1, none⟩ (.int .i64 (k : Int))).alloc (.cells #[.int .u32 0] 43)) w9 := (Below.refl _ _).grown hgrow9 HZ8.out (fun j ej => (HW8.out.lt j ej).1)
          have HEnd : Hid (RW w (some ⟨g, p, none⟩) l bF (k + 1) v9 w9) := by
            refine HR8.out.next HD.out ?_ (by rw [HWd.out, List.map_take]; exact hown9) ?_
            · rw [hB9.block _ (by omega)]
              exact row_alloc (by rw [HBd.out]; exact heap_setCell_same _ _ _ _ _ _ (heap_setCell_same _ _ _ _ _ _ HG8.out)) _
            · exact (((((Below.refl bF w8).setCell (p := ⟨bF, 0, none⟩) (Nat.le_refl _) _).setCell (p := ⟨bF, 1, none⟩) (Nat.le_refl _) _).alloc (by simp; omega) _).trans (hB9.mono (by omega)))
          clear hown9 hgrow9 hB9
          go_wp2
          exact ⟨⟨k + 1, by omega, by go_num, HEnd⟩, by simp [intOf]; omega⟩
        | some I =>
          have HB0 : Hid (badAt l k = some I) := hb0
          have HBd : Hid (badAt l (k + 1) = some I) := bad_old hb0
          clear hb0
          clear hrt
          go_wp2_with (first
          | (go_at_call 11; refine H11.out.mono ?_; rintro e w5 ⟨rfl, hw⟩; have HR5 : Hid (RW w (some ⟨g, p, none⟩) l bF k u9 w5) := hw; obtain ⟨y0, y1, y2, y3, y4⟩ := HFv.out w5 hw.low; clear hw)
          | (go_at_call 12; refine (H12.out _ HR5.out).mono ?_; rintro e w6 ⟨rfl, hw⟩; have HR6 : Hid (RW w (some ⟨g, p, none⟩) l bF k u9 w6) := hw; clear hw)
          | (go_at_call 13; refine (H13.out _ HR6.out).mono ?_; rintro e w7 ⟨rfl, hw⟩; have HR7 : Hid (RW w (some ⟨g, p, none⟩) l bF k u9 w7) := hw; obtain ⟨z0, z1, z2, z3, z4⟩ := HFv.out w7 hw.low; clear hw)
          | (go_at_call 14; fail))
          refine (H14.out _ HR7.out).mono ?_
          rintro e w8 ⟨rfl, hw⟩
          have HR8 : Hid (RW w (some ⟨g, p, none⟩) l bF k u9 w8) := hw
          obtain ⟨F0, F1⟩ := HF.out _ hw.low
          have G8 := hw.f
          rw [HB0.out] at G8
          have G8 : w8.heap[bF]? = some (.cells #[.int .i64 1, .int .i64 (I : Int)] 25) := G8
          have t0 : w8.cell? ⟨bF, 0, none⟩ = some (.int .i64 1) := by rw [cell_of_row _ _ _ _ _ _ G8]; rfl
          have t1 : w8.cell? ⟨bF, 1, none⟩ = some (.int .i64 (I : Int)) := by rw [cell_of_row _ _ _ _ _ _ G8]; rfl
          have t2 := row_free G8 0
          have t3 := row_free G8 1
          have HG8 : Hid (w8.heap[bF]? = some (.cells #[.int .i64 1, .int .i64 (I : Int)] 25)) := G8
          clear hw G8
          have HW8 : Hid ((w8.alloc (.cells #[.int .u32 0] 43)).ownsRow (bF + 1) 43 1 u9 k ((l.take k).map wdD)) := HR8.out.r9.alloc _
          have HN8 : Hid (∀ (j : Nat) (x : Value), [Value.int .u32 0][j]? = some x → (w8.alloc (.cells #[.int .u32 0] 43)).cell? ((⟨w8.heap.size, 0, none⟩ : Addr).add j) = some x) := World.news_of_block (cs := #[.int .u32 0]) (t := 43) (fr := (0, 0)) (heap_alloc_last w8 _)
          have H18 : Hid (∀ u ∈ [Value.int .u32 0], u.oneCell' = true) := fun u hu => by simp at hu; subst hu; rfl
          have HZ8 : Hid (bF + 1 ≤ (w8.alloc (.cells #[.int .u32 0] 43)).heap.size) := by show _ ≤ _; have := HR8.out.lt; simp; omega
          go_wp2_with (at_builtin; refine wpList_append_own _ rfl _ _ 35 rfl (bF + 1) 43 i9 _ 1 4 Tryz.underlying35 hi9 hz9 hs9 hb9 rfl (by decide) _ k _ rfl HW8.out ⟨w8.heap.size, 0, none⟩ 1 1 [.int .u32 0] rfl rfl HN8.out H18.out (by unfold maxLen; omega) (by omega) HZ8.out ?_)
          intro v9 w9 hown9 hgrow9 _
          have hlt8 := HR8.out.lt
          have hB9 : Below (bF + 1) (w8.alloc (.cells #[.int .u32 0] 43)) w9 := (Below.refl _ _).grown hgrow9 HZ8.out (fun j ej => (HW8.out.lt j ej).1)
          have HEnd : Hid (RW w (some ⟨g, p, none⟩) l bF (k + 1) v9 w9) := by
            refine HR8.out.next HD.out ?_ (by rw [HWd.out, List.map_take]; exact hown9) ?_
            · rw [hB9.block _ (by omega)]
              exact row_alloc (by rw [HBd.out]; exact HG8.out) _
            · exact (((Below.refl bF w8).alloc (by omega) _).trans (hB9.mono (by omega)))
          clear hown9 hgrow9 hB9
          go_wp2
          exact ⟨⟨k + 1, by omega, by go_num, HEnd⟩, by simp [intOf]; omega⟩
    · obtain rfl : k = L := by omega
      have hfin := HR.out.f
      cases hbad : badAt l k with
      | some I =>
        rw [hbad] at hfin
        have hfin : wr.heap[bF]? = some (.cells #[.int .i64 1, .int .i64 (I : Int)] 25) := hfin
        obtain ⟨b1, b2, b3⟩ := bad_some hbad
        have H15 : Hid (Calls Tryz.prog 15 #[.slice q k c] wr fun e w' => (∃ a, e = .returned (.tuple #[.slice none 0 0, .iface 68 (.pointer (some ⟨a, 0, none⟩))]) ∧ w'.heap[a]? = some (.cells #[.int .i64 1, .int .i64 (I : Int)] 69)) ∧ Below wr.heap.size wr w') := by
          have := words_err wr (HE.out _ HR.out.low) q c l (HSl.out _ HR.out.low) (by rw [← HL.out]; exact hlen) I b1 b2 b3
          rw [← HL.out] at this
          exact this.mono fun e w' ⟨a, h1, h2, h3⟩ => ⟨⟨a, h1, h2⟩, h3⟩
        have HG : Hid (wr.heap[bF]? = some (.cells #[.int .i64 1, .int .i64 (I : Int)] 25)) := hfin
        clear b1 b2 b3 hbad hfin
        go_wp2_with (go_at_call 15; fail)
        refine H15.out.mono ?_
        rintro e w5 ⟨⟨ad, rfl, had⟩, hb5⟩
        have hlt := HR.out.lt
        have HB5 : Hid (Below w.heap.size w w5) := HR.out.low.trans (hb5.mono HR.out.low.size)
        have G5 : w5.heap[bF]? = some (.cells #[.int .i64 1, .int .i64 (I : Int)] 25) := by rw [hb5.block _ hlt]; exact HG.out
        have t0 : w5.cell? ⟨bF, 0, none⟩ = some (.int .i64 1) := by rw [cell_of_row _ _ _ _ _ _ G5]; rfl
        have t1 : w5.cell? ⟨bF, 1, none⟩ = some (.int .i64 (I : Int)) := by rw [cell_of_row _ _ _ _ _ _ G5]; rfl
        have HIs : Hid (∀ W, Below w5.heap.size w5 W → (Calls Tryz.prog 7 #[.iface 68 (.pointer (some ⟨ad, 0, none⟩)), .agg #[.int .i64 1, .int .i64 (I : Int)]] W fun e w' => e = .returned (.bool true) ∧ Below w5.heap.size w5 w') ∧ W.cell? ⟨bF, 0, none⟩ = some (.int .i64 1) ∧ W.cell? ⟨bF, 1, none⟩ = some (.int .i64 (I : Int)) ∧ FineT W) := fun W hb => by
          have hw : Below w.heap.size w W := HB5.out.trans (hb.mono HB5.out.size)
          have h5l : bF < w5.heap.size := (Array.getElem?_eq_some_iff.1 G5).1
          have := is_at 1 I 1 I ad W (HT.out _ hw) (by rw [hb.block _ (Array.getElem?_eq_some_iff.1 had).1]; exact had)
          refine ⟨this.mono fun e w' ⟨a, b⟩ => ⟨by simpa using a, hb.trans (b.mono hb.size)⟩, ?_, ?_, HF.out _ hw⟩
          · rw [hb.cell (p := ⟨bF, 0, none⟩) h5l]; exact t0
          · rw [hb.cell (p := ⟨bF, 1, none⟩) h5l]; exact t1
        have HB55 : Hid (Below w5.heap.size w5 w5) := Below.refl _ _
        clear hb5 had G5
        go_wp2_with (go_at_call 7; fail)
        refine ((HIs.out _ HB55.out).1).mono ?_
        rintro e w6 ⟨rfl, hb6⟩
        obtain ⟨_, s0, s1, F0, F1⟩ := HIs.out _ hb6
        have HB6 : Hid (Below w5.heap.size w5 w6) := hb6
        clear hb6
        go_wp2_with (go_at_call 7; fail)
        refine ((HIs.out _ HB6.out).1).mono ?_
        rintro e w7 ⟨rfl, hb7⟩
        have HB7 : Hid (Below w.heap.size w w7) := HB5.out.trans (hb7.mono HB5.out.size)
        clear hb7
        go_wp2
        go_ret
        exact ⟨rfl, HB7.out⟩
      | none =>
        rw [hbad] at hfin
        have hfin : wr.heap[bF]? = some (.cells #[.int .i64 0, .int .i64 (-1)] 25) := hfin
        have hall := bad_none (l := l) (by rw [← HL.out]; exact hbad)
        have H15 : Hid (Calls Tryz.prog 15 #[.slice q k c] wr fun e w' => (∃ v, e = .returned (.tuple #[v, .nilIface]) ∧ w'.ownsRow wr.heap.size 43 1 v k (l.map wdV)) ∧ Below wr.heap.size wr w') := by
          have := words_ok wr (HE.out _ HR.out.low) q c l (HSl.out _ HR.out.low) (by rw [← HL.out]; exact hlen) hall
          rw [← HL.out] at this
          exact this.mono fun e w' ⟨v, h1, h2, h3⟩ => ⟨⟨v, h1, h2⟩, h3⟩
        have HG : Hid (wr.heap[bF]? = some (.cells #[.int .i64 0, .int .i64 (-1)] 25)) := hfin
        have h9 := HR.out.r9
        rw [List.take_of_length_le (by rw [← HL.out]; exact Nat.le_refl _), wd_all hall] at h9
        have H9 : Hid (wr.ownsRow (bF + 1) 43 1 u9 k (l.map wdV)) := h9
        obtain ⟨q9, c9, rfl⟩ := own_slice h9
        obtain ⟨wo, hwo⟩ : ∃ wo, wo = wr := ⟨_, rfl⟩
        rw [← hwo] at HG H9 HR H15 ⊢
        clear hbad hfin hall h9 hwo
        go_wp2_with (go_at_call 15; fail)
        refine H15.out.mono ?_
        rintro e w5 ⟨⟨v, rfl, hown⟩, hb5⟩
        have hlt := HR.out.lt
        obtain ⟨q8, c8, rfl⟩ := own_slice hown
        have HB5 : Hid (Below w.heap.size w w5) := HR.out.low.trans (hb5.mono HR.out.low.size)
        have G5 : w5.heap[bF]? = some (.cells #[.int .i64 0, .int .i64 (-1)] 25) := by rw [hb5.block _ hlt]; exact HG.out
        have t0 : w5.cell? ⟨bF, 0, none⟩ = some (.int .i64 0) := by rw [cell_of_row _ _ _ _ _ _ G5]; rfl
        have t1 : w5.cell? ⟨bF, 1, none⟩ = some (.int .i64 (-1)) := by rw [cell_of_row _ _ _ _ _ _ G5]; rfl
        have h5l : bF < w5.heap.size := (Array.getElem?_eq_some_iff.1 G5).1
        have H8 : Hid (w5.ownsRow wo.heap.size 43 1 (.slice q8 k c8) k (l.map wdV)) := hown
        have H95 : Hid (w5.ownsRow (bF + 1) 43 1 (.slice q9 k c9) k (l.map wdV)) := ownsRow_below H9.out hb5
        have HIs : Hid (Calls Tryz.prog 7 #[.nilIface, .agg #[.int .i64 0, .int .i64 (-1)]] w5 fun e w' => e = .returned (.bool true) ∧ Below w5.heap.size w5 w') := is_nil 0 (-1) w5
        clear hb5 hown G5
        go_wp2_with (go_at_call 7; fail)
        refine HIs.out.mono ?_
        rintro e w6 ⟨rfl, hb6⟩
        have HB6 : Hid (Below w.heap.size w w6) := HB5.out.trans (hb6.mono HB5.out.size)
        have s0 : w6.cell? ⟨bF, 0, none⟩ = some (.int .i64 0) := by rw [hb6.cell (p := ⟨bF, 0, none⟩) h5l]; exact t0
        have s1 : w6.cell? ⟨bF, 1, none⟩ = some (.int .i64 (-1)) := by rw [hb6.cell (p := ⟨bF, 1, none⟩) h5l]; exact t1
        obtain ⟨F0, F1⟩ := HF.out _ HB6.out
        have H86 : Hid (w6.ownsRow wo.heap.size 43 1 (.slice q8 k c8) k (l.map wdV)) := ownsRow_below H8.out hb6
        have H96 : Hid (w6.ownsRow (bF + 1) 43 1 (.slice q9 k c9) k (l.map wdV)) := ownsRow_below H95.out hb6
        clear hb6 H8 H95
        go_wp2_with fail
        clear s0 s1 F0 F1 t0 t1
        go_loopw [17] (fun i wr => ∃ j : Nat, j ≤ k ∧ i = .int .i64 j ∧ Hid (wr.heap = w6.heap ∧ Below w.heap.size w wr)) (fun i _ => k - (intOf i).toNat)
        case atStart => exact ⟨0, Nat.zero_le _, rfl, rfl, HB6.out⟩
        case round =>
          obtain ⟨j, hj, rfl, HH⟩ := hrel
          by_cases hlt2 : j < k
          · obtain ⟨g8, c8', e8, _, _⟩ := own_some H86.out (by omega)
            obtain ⟨g9, c9', e9, _, _⟩ := own_some H96.out (by omega)
            injection e8 with e8 _ e8c
            injection e9 with e9 _ e9c
            subst e8 e9 e8c e9c
            obtain ⟨d, hd⟩ : ∃ d, l[j]? = some d := ⟨_, List.getElem?_eq_getElem (by rw [← HL.out]; exact hlt2)⟩
            have hc : ∀ a, wr.cell? a = w6.cell? a := fun a => World.cell?_of_block (w := w6) (by rw [HH.out.1])
            have x8 : wr.cell? ⟨g8, j, none⟩ = some (wdV d) := by rw [hc]; exact row_cell H86.out j _ (by rw [List.getElem?_map, hd]; rfl)
            have x9 : wr.cell? ⟨g9, j, none⟩ = some (wdV d) := by rw [hc]; exact row_cell H96.out j _ (by rw [List.getElem?_map, hd]; rfl)
            unfold wdV at x8 x9
            clear hc hd
            generalize Wd d.o d.d d.a d.b d.n = z at *
            go_wp2_with fail
            go_quiet (fail)
            go_wp2
            exact ⟨⟨j + 1, by omega, by go_num, HH.out.1, below_drewN HH.out.2 _⟩, by simp [intOf]; omega⟩
          · go_wp2
            go_ret
            exact ⟨rfl, HH.out.2⟩
end Go.Proofs.YtjjjdplgdlaihaaGreatDoor
