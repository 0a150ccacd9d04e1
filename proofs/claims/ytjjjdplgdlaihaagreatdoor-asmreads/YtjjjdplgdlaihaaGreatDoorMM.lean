/- Words, walked. Which registers a kind has: strings.Contains at one byte. -/
import Derived.Test.YtjjjdplgdlaihaaGreatDoorF2
import Derived.Test.YtjjjdplgdlaihaaGreatDoorMF
import Derived.Test.YtjjjdplgdlaihaaGreatDoorML
import Derived.Test.YtjjjdplgdlaihaaGreatDoorSH2
import Derived.Test.YtjjjdplgdlaihaaGreatDoorMH
namespace Go.Proofs.YtjjjdplgdlaihaaGreatDoor
set_option linter.unusedVariables false
open Go Go.RowKit

theorem info43 : (Tryz.prog.info? 43).map (fun i => (i.zero, i.size, i.bytes)) = some (some (.int .u32 0), 1, 4) := by kernel_rfl
def wdV (d : Dr) : Value := .int .u32 (Wd d.o d.d d.a d.b d.n)
theorem Five.below' {w w' : World} {g p : Nat} {d : Dr} {B : Nat} (h : Five w g p d) (hg : g < B) (hb : Below B w w') : Five w' g p d := by
  have c : ∀ i, w'.cell? ⟨g, i, none⟩ = w.cell? ⟨g, i, none⟩ := fun i => hb.cell (p := ⟨g, i, none⟩) hg
  exact ⟨(c _).trans h.c0, (c _).trans h.c1, (c _).trans h.c2, (c _).trans h.c3, (c _).trans h.c4⟩

theorem ownsRow_some' {w : World} {B k t z : Nat} {v : Value} {xs : List Value} (h : w.ownsRow B t z v (k + 1) xs) : ∃ g c, v = .slice (some ⟨g, 0, none⟩) (k + 1) c := by
  rcases h.2 with ⟨_, h0⟩ | ⟨g, cap, _, rfl, _⟩
  · omega
  · exact ⟨g, cap, rfl⟩
theorem ownsRow_below {w w' : World} {B t z k : Nat} {v : Value} {xs : List Value} (h : w.ownsRow B t z v k xs) (hb : Below w.heap.size w w') : w'.ownsRow B t z v k xs :=
  h.kept (row := none) ⟨hb.os, hb.tape, hb.output, hb.size, fun j hj _ => hb.block j hj⟩ (by cases hv : v.ownBlock <;> simp)

set_option maxRecDepth 100000 in
set_option maxHeartbeats 4000000 in
theorem words_ok (w : World) (he : Env w) (q : Option Addr) (c : Nat) (l : List Dr) (hs : Sl w q l) (hlen : l.length ≤ 40) (hr : ∀ d ∈ l, Rt d.o d.d d.a d.b d.n = true) :
    Calls Tryz.prog 15 #[.slice q l.length c] w fun e w' => ∃ v, e = .returned (.tuple #[v, .nilIface]) ∧ w'.ownsRow w.heap.size 43 1 v l.length (l.map wdV) ∧ Below w.heap.size w w' := by
  obtain ⟨i0, hi0, hz0, hz1, hz2⟩ := info_parts info43
  obtain ⟨g, p, hq, hf⟩ := hs
  obtain ⟨L, hL⟩ : ∃ L, L = l.length := ⟨_, rfl⟩
  rw [← hL]
  rw [← hL] at hlen hq
  have HE : Hid (∀ w', Below w.heap.size w w' → Env w') := fun w' hb => he.below hb
  have HD : Hid (∀ (i : Nat) (d : Dr), l[i]? = some d → Five w g (p + i * 5) d) := hf
  have HR : Hid (∀ d ∈ l, Rt d.o d.d d.a d.b d.n = true) := hr
  have HL : Hid (L = l.length) := hL
  have hb2 : i0.bytes * L ≤ 281474976710656 := by rw [hz2]; omega
  have hb3 : L ≤ maxLen := by unfold maxLen; omega
  clear he hf hr hL
  go_enter Tryz.func15, Tryz.ntmps15
  go_wp2_with (at_make; refine wpList_make_own _ rfl _ _ 35 rfl w.heap.size 43 i0 _ 1 Tryz.underlying35 hi0 hz0 hz1 .i64 .i64 _ L rfl rfl rfl hb2 hb3 (Nat.le_refl _) ?_)
  intro w1 hown hgrow
  have HO1 : Hid (w1.ownsRow w.heap.size 43 1 (.slice (some ⟨w.heap.size, 0, none⟩) 0 L) 0 []) := hown
  have HB1 : Hid (Below w.heap.size w w1) := ⟨hgrow.os, hgrow.tape, hgrow.output, hgrow.size, fun k hk => hgrow.block k hk (by simp)⟩
  clear hown hgrow
  go_wp2_with fail
  have hgl : 0 < L → g < w.heap.size := fun h => by
    obtain ⟨x, hx⟩ : ∃ x, l[0]? = some x := ⟨_, List.getElem?_eq_getElem (by rw [← HL.out]; exact h)⟩
    exact World.block_lt_of_cell? w _ (HD.out 0 x hx).c0
  go_loopw [4, 14] (fun v4 i wr => ∃ (k g4 c4 : Nat), k ≤ L ∧ i = .int .i64 k ∧ v4 = .slice (some ⟨g4, 0, none⟩) k c4 ∧ Hid (wr.ownsRow w.heap.size 43 1 (.slice (some ⟨g4, 0, none⟩) k c4) k ((l.take k).map wdV) ∧ Below w.heap.size w wr)) (fun _ i _ => L - (intOf i).toNat)
  case atStart => exact ⟨0, _, _, Nat.zero_le _, rfl, rfl, by simpa using HO1.out, HB1.out⟩
  case round =>
    obtain ⟨k, g4, c4, hk, rfl, rfl, hrr⟩ := hrel
    by_cases hlt : k < L
    · have hqq := hq (by omega)
      subst hqq
      have hgw := hgl (by omega)
      obtain ⟨x, hx⟩ : ∃ x, l[k]? = some x := ⟨_, List.getElem?_eq_getElem (by rw [← HL.out]; exact hlt)⟩
      obtain ⟨o1, d1, a1, b1, n1, pl1⟩ := x
      have hR := HR.out _ (List.mem_of_getElem? hx)
      obtain ⟨s0, s1, s2, s3, s4⟩ := (HD.out k _ hx).below' hgw hrr.out.2
      simp only at s0 s1 s2 s3 s4 hR
      have hzr : w.heap.size ≤ wr.heap.size := hrr.out.2.size
      have hgr : g < wr.heap.size := by omega
      have HOUT : Hid ((l.take (k + 1)).map wdV = (l.take k).map wdV ++ [.int .u32 (Wd o1 d1 a1 b1 n1)]) := by
        show _ = _
        obtain ⟨hk2, he2⟩ := List.getElem?_eq_some_iff.1 hx
        rw [List.take_succ_eq_append_getElem hk2, List.map_append, he2]
        rfl
      have HEN : Hid (∀ A : Obj, Calls Tryz.prog 43 #[instV o1 d1 a1 b1 n1] (wr.alloc A) fun e w' => e = .returned (.tuple #[.int .u32 (Wd o1 d1 a1 b1 n1), .nilIface]) ∧ Below (wr.alloc A).heap.size (wr.alloc A) w') := fun A =>
        encode_ok o1 d1 a1 b1 n1 _ (HE.out _ (hrr.out.2.alloc hzr A)).tab hR
      have HAF : Hid (∀ (A : Obj) (w2 : World), Below (wr.alloc A).heap.size (wr.alloc A) w2 → w2.ownsRow w.heap.size 43 1 (.slice (some ⟨g4, 0, none⟩) k c4) k ((l.take k).map wdV) ∧ w.heap.size ≤ w2.heap.size ∧ Below w.heap.size w w2) := fun A w2 hb => by
        have hb' : Below wr.heap.size wr w2 := ((Below.refl _ _).alloc (Nat.le_refl _) A).trans (hb.mono (by simp))
        exact ⟨ownsRow_below hrr.out.1 hb', Nat.le_trans hzr hb'.size, hrr.out.2.trans (hb'.mono hzr)⟩
      clear hR hx
      generalize Wd o1 d1 a1 b1 n1 = W at *
      go_wp2_with (go_at_call 43; fail)
      refine (HEN.out _).mono ?_
      rintro e w2 ⟨rfl, hb2⟩
      obtain ⟨hown2, hsz2, hbel2⟩ := HAF.out _ w2 hb2
      have HW2 : Hid ((w2.alloc (.cells #[.int .u32 W] 43)).ownsRow w.heap.size 43 1 (.slice (some ⟨g4, 0, none⟩) k c4) k ((l.take k).map wdV)) := hown2.alloc _
      have HN2 : Hid (∀ (j : Nat) (x : Value), [Value.int .u32 W][j]? = some x → (w2.alloc (.cells #[.int .u32 W] 43)).cell? ((⟨w2.heap.size, 0, none⟩ : Addr).add j) = some x) := World.news_of_block (cs := #[.int .u32 W]) (t := 43) (fr := (0, 0)) (heap_alloc_last w2 _)
      have H12 : Hid (∀ u ∈ [Value.int .u32 W], u.oneCell' = true) := fun u hu => by simp at hu; subst hu; rfl
      have HZ2 : Hid (w.heap.size ≤ (w2.alloc (.cells #[.int .u32 W] 43)).heap.size) := by show _ ≤ _; simp; omega
      have HBB : Hid (Below w.heap.size w (w2.alloc (.cells #[.int .u32 W] 43))) := hbel2.alloc hsz2 _
      clear hown2 hbel2 hb2
      go_wp2_with (at_builtin; refine wpList_append_own _ rfl _ _ 35 rfl w.heap.size 43 i0 _ 1 4 Tryz.underlying35 hi0 hz0 hz1 hz2 rfl (by decide) _ k _ rfl HW2.out ⟨w2.heap.size, 0, none⟩ 1 1 [.int .u32 W] rfl rfl HN2.out H12.out (by unfold maxLen; omega) (by omega) HZ2.out ?_)
      intro v3 w3 hown3 hgrow3 _
      have hb3 : Below w.heap.size w w3 := HBB.out.grown hgrow3 HZ2.out (fun j ej => (HW2.out.lt j ej).1)
      obtain ⟨g3, c3, rfl⟩ := ownsRow_some' hown3
      have HQ3 : Hid (w3.ownsRow w.heap.size 43 1 (.slice (some ⟨g3, 0, none⟩) (k + 1) c3) (k + 1) ((l.take (k + 1)).map wdV) ∧ Below w.heap.size w w3) := ⟨by rw [HOUT.out, List.map_take]; exact hown3, hb3⟩
      clear hown3 hgrow3 hb3
      go_wp2
      exact ⟨⟨k + 1, g3, c3, by omega, by go_num, rfl, HQ3.out⟩, by simp [intOf]; omega⟩
    · obtain rfl : k = L := by omega
      go_wp2
      go_ret2
      exact ⟨_, rfl, by have := hrr.out.1; rwa [List.take_of_length_le (by rw [← HL.out]; exact Nat.le_refl _)] at this, hrr.out.2⟩
set_option maxRecDepth 100000 in
set_option maxHeartbeats 4000000 in
theorem words_err (w : World) (he : Env w) (q : Option Addr) (c : Nat) (l : List Dr) (hs : Sl w q l) (hlen : l.length ≤ 40) (I : Nat) (hI : I < l.length) (hr : ∀ (i : Nat) (d : Dr), i < I → l[i]? = some d → Rt d.o d.d d.a d.b d.n = true) (hbad : ∀ d, l[I]? = some d → Rt d.o d.d d.a d.b d.n = false) :
    Calls Tryz.prog 15 #[.slice q l.length c] w fun e w' => ∃ a, e = .returned (.tuple #[.slice none 0 0, .iface 68 (.pointer (some ⟨a, 0, none⟩))]) ∧ w'.heap[a]? = some (.cells #[.int .i64 1, .int .i64 (I : Int)] 69) ∧ Below w.heap.size w w' := by
  obtain ⟨i0, hi0, hz0, hz1, hz2⟩ := info_parts info43
  obtain ⟨g, p, hq, hf⟩ := hs
  obtain ⟨L, hL⟩ : ∃ L, L = l.length := ⟨_, rfl⟩
  rw [← hL]
  rw [← hL] at hlen hq hI
  have HE : Hid (∀ w', Below w.heap.size w w' → Env w') := fun w' hb => he.below hb
  have HD : Hid (∀ (i : Nat) (d : Dr), l[i]? = some d → Five w g (p + i * 5) d) := hf
  have HR : Hid (∀ (i : Nat) (d : Dr), i < I → l[i]? = some d → Rt d.o d.d d.a d.b d.n = true) := hr
  have HBad : Hid (∀ d, l[I]? = some d → Rt d.o d.d d.a d.b d.n = false) := hbad
  have HL : Hid (L = l.length) := hL
  have hb2 : i0.bytes * L ≤ 281474976710656 := by rw [hz2]; omega
  have hb3 : L ≤ maxLen := by unfold maxLen; omega
  clear he hf hr hL hbad
  go_enter Tryz.func15, Tryz.ntmps15
  go_wp2_with (at_make; refine wpList_make_own _ rfl _ _ 35 rfl w.heap.size 43 i0 _ 1 Tryz.underlying35 hi0 hz0 hz1 .i64 .i64 _ L rfl rfl rfl hb2 hb3 (Nat.le_refl _) ?_)
  intro w1 hown hgrow
  have HO1 : Hid (w1.ownsRow w.heap.size 43 1 (.slice (some ⟨w.heap.size, 0, none⟩) 0 L) 0 []) := hown
  have HB1 : Hid (Below w.heap.size w w1) := ⟨hgrow.os, hgrow.tape, hgrow.output, hgrow.size, fun k hk => hgrow.block k hk (by simp)⟩
  clear hown hgrow
  go_wp2_with fail
  have hgl : 0 < L → g < w.heap.size := fun h => by
    obtain ⟨x, hx⟩ : ∃ x, l[0]? = some x := ⟨_, List.getElem?_eq_getElem (by rw [← HL.out]; exact h)⟩
    exact World.block_lt_of_cell? w _ (HD.out 0 x hx).c0
  go_loopw [4, 14] (fun v4 i wr => ∃ (k g4 c4 : Nat), k ≤ I ∧ i = .int .i64 k ∧ v4 = .slice (some ⟨g4, 0, none⟩) k c4 ∧ Hid (wr.ownsRow w.heap.size 43 1 (.slice (some ⟨g4, 0, none⟩) k c4) k ((l.take k).map wdV) ∧ Below w.heap.size w wr)) (fun _ i _ => L - (intOf i).toNat)
  case atStart => exact ⟨0, _, _, Nat.zero_le _, rfl, rfl, by simpa using HO1.out, HB1.out⟩
  case round =>
    obtain ⟨k, g4, c4, hk, rfl, rfl, hrr⟩ := hrel
    by_cases hlt : k < I
    · have hkL : k < L := by omega
      have hqq := hq (by omega)
      subst hqq
      have hgw := hgl (by omega)
      obtain ⟨x, hx⟩ : ∃ x, l[k]? = some x := ⟨_, List.getElem?_eq_getElem (by rw [← HL.out]; exact hkL)⟩
      obtain ⟨o1, d1, a1, b1, n1, pl1⟩ := x
      have hR := HR.out k _ hlt hx
      obtain ⟨s0, s1, s2, s3, s4⟩ := (HD.out k _ hx).below' hgw hrr.out.2
      simp only at s0 s1 s2 s3 s4 hR
      have hzr : w.heap.size ≤ wr.heap.size := hrr.out.2.size
      have hgr : g < wr.heap.size := by omega
      have HOUT : Hid ((l.take (k + 1)).map wdV = (l.take k).map wdV ++ [.int .u32 (Wd o1 d1 a1 b1 n1)]) := by
        show _ = _
        obtain ⟨hk2, he2⟩ := List.getElem?_eq_some_iff.1 hx
        rw [List.take_succ_eq_append_getElem hk2, List.map_append, he2]
        rfl
      have HEN : Hid (∀ A : Obj, Calls Tryz.prog 43 #[instV o1 d1 a1 b1 n1] (wr.alloc A) fun e w' => e = .returned (.tuple #[.int .u32 (Wd o1 d1 a1 b1 n1), .nilIface]) ∧ Below (wr.alloc A).heap.size (wr.alloc A) w') := fun A =>
        encode_ok o1 d1 a1 b1 n1 _ (HE.out _ (hrr.out.2.alloc hzr A)).tab hR
      have HAF : Hid (∀ (A : Obj) (w2 : World), Below (wr.alloc A).heap.size (wr.alloc A) w2 → w2.ownsRow w.heap.size 43 1 (.slice (some ⟨g4, 0, none⟩) k c4) k ((l.take k).map wdV) ∧ w.heap.size ≤ w2.heap.size ∧ Below w.heap.size w w2) := fun A w2 hb => by
        have hb' : Below wr.heap.size wr w2 := ((Below.refl _ _).alloc (Nat.le_refl _) A).trans (hb.mono (by simp))
        exact ⟨ownsRow_below hrr.out.1 hb', Nat.le_trans hzr hb'.size, hrr.out.2.trans (hb'.mono hzr)⟩
      clear hR hx
      generalize Wd o1 d1 a1 b1 n1 = W at *
      go_wp2_with (go_at_call 43; fail)
      refine (HEN.out _).mono ?_
      rintro e w2 ⟨rfl, hb2⟩
      obtain ⟨hown2, hsz2, hbel2⟩ := HAF.out _ w2 hb2
      have HW2 : Hid ((w2.alloc (.cells #[.int .u32 W] 43)).ownsRow w.heap.size 43 1 (.slice (some ⟨g4, 0, none⟩) k c4) k ((l.take k).map wdV)) := hown2.alloc _
      have HN2 : Hid (∀ (j : Nat) (x : Value), [Value.int .u32 W][j]? = some x → (w2.alloc (.cells #[.int .u32 W] 43)).cell? ((⟨w2.heap.size, 0, none⟩ : Addr).add j) = some x) := World.news_of_block (cs := #[.int .u32 W]) (t := 43) (fr := (0, 0)) (heap_alloc_last w2 _)
      have H12 : Hid (∀ u ∈ [Value.int .u32 W], u.oneCell' = true) := fun u hu => by simp at hu; subst hu; rfl
      have HZ2 : Hid (w.heap.size ≤ (w2.alloc (.cells #[.int .u32 W] 43)).heap.size) := by show _ ≤ _; simp; omega
      have HBB : Hid (Below w.heap.size w (w2.alloc (.cells #[.int .u32 W] 43))) := hbel2.alloc hsz2 _
      clear hown2 hbel2 hb2
      go_wp2_with (at_builtin; refine wpList_append_own _ rfl _ _ 35 rfl w.heap.size 43 i0 _ 1 4 Tryz.underlying35 hi0 hz0 hz1 hz2 rfl (by decide) _ k _ rfl HW2.out ⟨w2.heap.size, 0, none⟩ 1 1 [.int .u32 W] rfl rfl HN2.out H12.out (by unfold maxLen; omega) (by omega) HZ2.out ?_)
      intro v3 w3 hown3 hgrow3 _
      have hb3 : Below w.heap.size w w3 := HBB.out.grown hgrow3 HZ2.out (fun j ej => (HW2.out.lt j ej).1)
      obtain ⟨g3, c3, rfl⟩ := ownsRow_some' hown3
      have HQ3 : Hid (w3.ownsRow w.heap.size 43 1 (.slice (some ⟨g3, 0, none⟩) (k + 1) c3) (k + 1) ((l.take (k + 1)).map wdV) ∧ Below w.heap.size w w3) := ⟨by rw [HOUT.out, List.map_take]; exact hown3, hb3⟩
      clear hown3 hgrow3 hb3
      go_wp2
      exact ⟨⟨k + 1, g3, c3, by omega, by go_num, rfl, HQ3.out⟩, by simp [intOf]; omega⟩
    · obtain rfl : k = I := by omega
      have hqq := hq (by omega)
      subst hqq
      have hgw := hgl (by omega)
      obtain ⟨x, hx⟩ : ∃ x, l[k]? = some x := ⟨_, List.getElem?_eq_getElem (by rw [← HL.out]; exact hI)⟩
      have hR := HBad.out x hx
      obtain ⟨o1, d1, a1, b1, n1, pl1⟩ := x
      obtain ⟨s0, s1, s2, s3, s4⟩ := (HD.out k _ hx).below' hgw hrr.out.2
      simp only at s0 s1 s2 s3 s4 hR
      have hzr : w.heap.size ≤ wr.heap.size := hrr.out.2.size
      have hgr : g < wr.heap.size := by omega
      have HEN : Hid (∀ A : Obj, Calls Tryz.prog 43 #[instV o1 d1 a1 b1 n1] (wr.alloc A) fun e w' => e = .returned (.tuple #[.int .u32 0, .iface 23 (.int .i64 1)]) ∧ Below (wr.alloc A).heap.size (wr.alloc A) w') := fun A =>
        encode_err o1 d1 a1 b1 n1 _ (HE.out _ (hrr.out.2.alloc hzr A)).tab hR
      have HAF : Hid (∀ (A : Obj) (w2 : World), Below (wr.alloc A).heap.size (wr.alloc A) w2 → ∀ C : Obj, (w2.alloc C).heap[w2.heap.size]? = some C ∧ Below w.heap.size w (w2.alloc C)) := fun A w2 hb C => by
        have hb' : Below wr.heap.size wr w2 := ((Below.refl _ _).alloc (Nat.le_refl _) A).trans (hb.mono (by simp))
        exact ⟨heap_alloc_last w2 C, (hrr.out.2.trans (hb'.mono hzr)).alloc (Nat.le_trans hzr hb'.size) C⟩
      clear hR hx
      go_wp2_with (go_at_call 43; fail)
      refine (HEN.out _).mono ?_
      rintro e w2 ⟨rfl, hb2⟩
      have HF2 : Hid (∀ C : Obj, (w2.alloc C).heap[w2.heap.size]? = some C ∧ Below w.heap.size w (w2.alloc C)) := HAF.out _ w2 hb2
      clear hb2
      go_wp2
      go_ret2
      exact ⟨_, rfl, (HF2.out _).1, (HF2.out _).2⟩
end Go.Proofs.YtjjjdplgdlaihaaGreatDoor

namespace Go.Proofs
open Go Go.Shelf Go.RowKit
theorem YtjjjdplgdlaihaaGreatDoor.strings_Contains_one (s : ByteArray) (c : UInt8) (w : World) :
    Calls Tryz.prog 56 #[.string s, .string ⟨#[c]⟩] w fun e w' => e = .returned (.bool (decide (0 ≤ Lib.indexByte s.data.toList c))) ∧ w' = w := Tryz.strings_Contains_one s c w
end Go.Proofs
