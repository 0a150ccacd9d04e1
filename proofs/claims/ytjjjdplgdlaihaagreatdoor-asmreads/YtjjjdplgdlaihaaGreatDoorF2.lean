/- finish, walked, where a draft is at fault: the first one. -/
import Derived.Test.YtjjjdplgdlaihaaGreatDoorMG
namespace Go.Proofs.YtjjjdplgdlaihaaGreatDoor
set_option linter.unusedVariables false
open Go Go.RowKit

/-- The draft at fault, and which fault it is. -/
def Bad (ds : Drafts) (ps : Places) (I : Nat) (cd : Int) (ln : Nat) : Prop :=
  ∃ d : Dr, ds[I]? = some (d, ln) ∧ ((cd = 7 ∧ d.pl ≠ [] ∧ d.pl.length < 4294967281 ∧ ps.lookup d.pl = none) ∨ (cd = 2 ∧ ∃ N : Int, Rt d.o d.d d.a d.b N = false ∧ ((d.pl = [] ∧ N = d.n) ∨ (d.pl ≠ [] ∧ d.pl.length < 4294967281 ∧ ∃ j : Nat, j < 4294967281 ∧ ps.lookup d.pl = some j ∧ N = 4 * ((j : Int) - I)))))

set_option maxRecDepth 100000 in
set_option maxHeartbeats 4000000 in
theorem finish_err (w : World) (q : Option Addr) (g c b n : Nat) (ds : Drafts) (ps : Places) (out : List Dr) (he : Env w) (hlen : ds.length < 4294967281) (hq : 0 < ds.length → q = some ⟨g, 0, none⟩) (hg : g < w.heap.size) (hds : ∀ (i : Nat) (d : Dr) (k : Nat), ds[i]? = some (d, k) → Seven w g (i * 7) d k) (hp : PlAt w b n ps) (I : Nat) (hI : I < ds.length) (hf : FinOk (ds.take I) ps out) (cd : Int) (fl : Nat) (hbad : Bad ds ps I cd fl) :
    Calls Tryz.prog 28 #[.slice q ds.length c, .map (some b)] w fun e w' => ∃ a, e = .returned (.tuple #[.slice none 0 0, .iface 68 (.pointer (some ⟨a, 0, none⟩))]) ∧ w'.heap[a]? = some (.cells #[.int .i64 cd, .int .i64 (fl : Int)] 69) ∧ w.heap.size ≤ a ∧ Below w.heap.size w w' := by
  obtain ⟨i0, hi0, hz0, hz1, hz2⟩ := info_parts info30
  obtain ⟨L, hL⟩ : ∃ L, L = ds.length := ⟨_, rfl⟩
  rw [← hL]
  rw [← hL] at hlen hq hI
  have HE : Hid (∀ w', Below w.heap.size w w' → Env w') := fun w' hb => he.below hb
  have HD : Hid (∀ (i : Nat) (d : Dr) (k : Nat), ds[i]? = some (d, k) → Seven w g (i * 7) d k) := hds
  have HF : Hid (FinOk (ds.take I) ps out) := hf
  have HBad : Hid (Bad ds ps I cd fl) := hbad
  have HP : Hid (PlAt w b n ps) := hp
  have HL : Hid (L = ds.length) := hL
  have hb2 : i0.bytes * L ≤ 281474976710656 := by rw [hz2]; omega
  have hb3 : L ≤ maxLen := by unfold maxLen; omega
  clear he hds hf hp hL hbad
  go_enter Tryz.func28, Tryz.ntmps28
  go_wp2_with (at_make; refine wpList_make_own _ rfl _ _ 22 rfl w.heap.size 39 i0 _ 5 Tryz.underlying22 hi0 hz0 hz1 .i64 .i64 _ L rfl rfl rfl hb2 hb3 (Nat.le_refl _) ?_)
  intro w1 hown hgrow
  have HO1 : Hid (w1.ownsRow w.heap.size 39 5 (.slice (some ⟨w.heap.size, 0, none⟩) 0 L) 0 []) := hown
  have HB1 : Hid (Below w.heap.size w w1) := ⟨hgrow.os, hgrow.tape, hgrow.output, hgrow.size, fun k hk => hgrow.block k hk (by simp)⟩
  clear hown hgrow
  go_wp2_with fail
  go_loopw [6, 17] (fun v6 i wr => ∃ (k : Nat) (g6 c6 : Nat), k ≤ I ∧ i = .int .i64 k ∧ v6 = .slice (some ⟨g6, 0, none⟩) k c6 ∧ Hid (wr.ownsRow w.heap.size 39 5 (.slice (some ⟨g6, 0, none⟩) k c6) k (ins (out.take k)) ∧ Below w.heap.size w wr)) (fun _ i _ => L - (intOf i).toNat)
  case atStart => exact ⟨0, _, _, Nat.zero_le _, rfl, rfl, by simpa [ins] using HO1.out, HB1.out⟩
  case round =>
    obtain ⟨k, g6, c6, hk, rfl, rfl, hrr⟩ := hrel
    by_cases hlt : k < I
    · have hkL : k < L := by omega
      have hqq := hq (by omega)
      subst hqq
      obtain ⟨x, hx⟩ : ∃ x, ds[k]? = some x := by
        have : k < ds.length := by rw [← HL.out]; exact hkL
        exact ⟨_, List.getElem?_eq_getElem this⟩
      obtain ⟨⟨o1, d1, a1, b1, n1, pl1⟩, ln⟩ := x
      obtain ⟨N, hN, hR, hcase⟩ := HF.out.2 k _ _ (by rw [List.getElem?_take, if_pos hlt]; exact hx)
      simp only at hN hR hcase
      obtain ⟨s0, s1, s2, s3, s4, s5, s6⟩ := (HD.out k _ _ hx).below hg hrr.out.2
      simp only at s0 s1 s2 s3 s4 s5
      obtain ⟨x1, hx1⟩ : ∃ x : ByteArray, (⟨pl1.toArray⟩ : ByteArray) = x := ⟨_, rfl⟩
      have s5' : wr.cell? ⟨g, k * 7 + 5, none⟩ = some (.string x1) := by rw [s5, ← hx1]
      clear s5
      have hgr : g < wr.heap.size := by have := hrr.out.2.size; omega
      have HRT : Hid (∀ W', Below w.heap.size w W' → Calls Tryz.prog 36 #[instV o1 d1 a1 b1 N] W' fun e w'' => e = .returned (.bool true) ∧ Below W'.heap.size W' w'') := fun W' hb => by
        have := right_T o1 d1 a1 b1 N W' (HE.out W' hb).tab
        rw [hR] at this
        exact this
      have hzr : w.heap.size ≤ wr.heap.size := hrr.out.2.size
      have HFIN : Hid (∀ (A B : Obj) (w2 : World), B = .cells #[.int .i64 o1, .int .i64 d1, .int .i64 a1, .int .i64 b1, .int .i64 N] 39 → Below ((wr.alloc A).alloc B).heap.size ((wr.alloc A).alloc B) w2 → Aft w wr w2 (.slice (some ⟨g6, 0, none⟩) k c6) k (ins (out.take k)) o1 d1 a1 b1 N) := fun A B w2 hB hb => aft_of hB hb hzr hrr.out.1 hrr.out.2
      have HOUT : Hid (ins (out.take (k + 1)) = ins (out.take k) ++ [.int .i64 o1, .int .i64 d1, .int .i64 a1, .int .i64 b1, .int .i64 N]) := ins_take out k _ hN
      have HB2 : Hid (∀ (A B : Obj), Below w.heap.size w ((wr.alloc A).alloc B)) := fun A B => (hrr.out.2.alloc hzr A).alloc (by simp; omega) B
      clear hN hR
      rcases hcase with ⟨hpl, rfl⟩ | ⟨hpl, hpl2, j, hj, hlk, rfl⟩
      · subst hpl
        subst hx1
        go_wp2_with (go_at_call 36; fail)
        refine (HRT.out _ (HB2.out _ _)).mono ?_
        rintro e w2 ⟨rfl, hb2⟩
        have hA := HFIN.out _ _ w2 rfl hb2
        clear hb2
        obtain ⟨y0, y1, y2, y3, y4, hown2, hsz2, hbel2⟩ := hA
        have HW2 : Hid ((w2.alloc (.cells #[.int .i64 o1, .int .i64 d1, .int .i64 a1, .int .i64 b1, .int .i64 N] 39)).ownsRow w.heap.size 39 5 (.slice (some ⟨g6, 0, none⟩) k c6) k (ins (out.take k))) := hown2.alloc _
        have HN2 : Hid (∀ (j : Nat) (x : Value), [Value.int .i64 o1, .int .i64 d1, .int .i64 a1, .int .i64 b1, .int .i64 N][j]? = some x → (w2.alloc (.cells #[.int .i64 o1, .int .i64 d1, .int .i64 a1, .int .i64 b1, .int .i64 N] 39)).cell? ((⟨w2.heap.size, 0, none⟩ : Addr).add j) = some x) := World.news_of_block (cs := #[.int .i64 o1, .int .i64 d1, .int .i64 a1, .int .i64 b1, .int .i64 N]) (t := 39) (fr := (0, 0)) (heap_alloc_last w2 _)
        have H12 : Hid (∀ u ∈ [Value.int .i64 o1, .int .i64 d1, .int .i64 a1, .int .i64 b1, .int .i64 N], u.oneCell' = true) := fun u hu => by simp at hu; rcases hu with rfl | rfl | rfl | rfl | rfl <;> rfl
        have HZ2 : Hid (w.heap.size ≤ (w2.alloc (.cells #[.int .i64 o1, .int .i64 d1, .int .i64 a1, .int .i64 b1, .int .i64 N] 39)).heap.size) := by show _ ≤ _; simp; omega
        have HBB : Hid (Below w.heap.size w (w2.alloc (.cells #[.int .i64 o1, .int .i64 d1, .int .i64 a1, .int .i64 b1, .int .i64 N] 39))) := hbel2.alloc hsz2 _
        clear hown2 hbel2
        go_wp2_with (at_builtin; refine wpList_append_own _ rfl _ _ 22 rfl w.heap.size 39 i0 _ 5 40 Tryz.underlying22 hi0 hz0 hz1 hz2 rfl (by decide) _ k _ rfl HW2.out ⟨w2.heap.size, 0, none⟩ 1 1 [.int .i64 o1, .int .i64 d1, .int .i64 a1, .int .i64 b1, .int .i64 N] rfl rfl HN2.out H12.out (by unfold maxLen; omega) (by omega) HZ2.out ?_)
        intro v3 w3 hown3 hgrow3 _
        have hb3 : Below w.heap.size w w3 := HBB.out.grown hgrow3 HZ2.out (fun j ej => (HW2.out.lt j ej).1)
        obtain ⟨g3, c3, rfl⟩ := ownsRow_some hown3
        have HQ3 : Hid (w3.ownsRow w.heap.size 39 5 (.slice (some ⟨g3, 0, none⟩) (k + 1) c3) (k + 1) (ins (out.take (k + 1))) ∧ Below w.heap.size w w3) := ⟨by rw [HOUT.out]; exact hown3, hb3⟩
        clear hown3 hgrow3 hb3
        go_wp2
        exact ⟨⟨k + 1, g3, c3, by omega, by go_num, rfl, HQ3.out⟩, by simp [intOf]; omega⟩
      · have hxd : x1.data.toList = pl1 := by rw [← hx1]
        have hxs : x1.size ≤ maxLen := by
          have : x1.data.toList.length = x1.size := by simp
          rw [hxd] at this
          unfold maxLen
          omega
        have hne : ¬ x1 = ⟨#[]⟩ := by
          intro e
          rw [e] at hxd
          exact hpl (by rw [← hxd])
        have hne2 : x1.toList.isEmpty = false := ba_ne x1 hne
        have hlook : ∀ W', Below w.heap.size w W' → (Instr.lookup 53 (.map (some b)) (.string x1) true).run Tryz.prog W' = .ok (.tuple #[.int .i64 (j : Int), .bool true]) W' := fun W' hb => by
          have hpw : PlAt W' b n ps := HP.out.kept (row := none) ⟨hb.os, hb.tape, hb.output, hb.size, fun j hj _ => hb.block j hj⟩ (by simp)
          obtain ⟨v, hrun, hv⟩ := look_any hpw x1 hxs
          rw [hxd, hlk] at hrun
          rw [hxd] at hv
          rw [hv j hlk] at hrun
          exact hrun
        have hlook1 := hlook _ (HB2.out (.cells #[.int .i64 o1, .int .i64 d1, .int .i64 a1, .int .i64 b1, .int .i64 n1, .string x1, .int .i64 ln] 71) (.cells #[.int .i64 o1, .int .i64 d1, .int .i64 a1, .int .i64 b1, .int .i64 n1] 39))
        have hX : Hid ((⟨pl1.toArray⟩ : ByteArray) = x1) := hx1
        clear hlook hxd hpl hpl2 hlk hx1 hx
        go_wp2_with (go_at_call 36; fail)
        refine (HRT.out _ (HB2.out _ _)).mono ?_
        rintro e w2 ⟨rfl, hb2⟩
        have hA := HFIN.out _ _ w2 rfl hb2
        clear hb2
        obtain ⟨y0, y1, y2, y3, y4, hown2, hsz2, hbel2⟩ := hA
        have HW2 : Hid ((w2.alloc (.cells #[.int .i64 o1, .int .i64 d1, .int .i64 a1, .int .i64 b1, .int .i64 (4 * ((j : Int) - k))] 39)).ownsRow w.heap.size 39 5 (.slice (some ⟨g6, 0, none⟩) k c6) k (ins (out.take k))) := hown2.alloc _
        have HN2 : Hid (∀ (jj : Nat) (x : Value), [Value.int .i64 o1, .int .i64 d1, .int .i64 a1, .int .i64 b1, .int .i64 (4 * ((j : Int) - k))][jj]? = some x → (w2.alloc (.cells #[.int .i64 o1, .int .i64 d1, .int .i64 a1, .int .i64 b1, .int .i64 (4 * ((j : Int) - k))] 39)).cell? ((⟨w2.heap.size, 0, none⟩ : Addr).add jj) = some x) := World.news_of_block (cs := #[.int .i64 o1, .int .i64 d1, .int .i64 a1, .int .i64 b1, .int .i64 (4 * ((j : Int) - k))]) (t := 39) (fr := (0, 0)) (heap_alloc_last w2 _)
        have H12 : Hid (∀ u ∈ [Value.int .i64 o1, .int .i64 d1, .int .i64 a1, .int .i64 b1, .int .i64 (4 * ((j : Int) - k))], u.oneCell' = true) := fun u hu => by simp at hu; rcases hu with rfl | rfl | rfl | rfl | rfl <;> rfl
        have HZ2 : Hid (w.heap.size ≤ (w2.alloc (.cells #[.int .i64 o1, .int .i64 d1, .int .i64 a1, .int .i64 b1, .int .i64 (4 * ((j : Int) - k))] 39)).heap.size) := by show _ ≤ _; simp; omega
        have HBB : Hid (Below w.heap.size w (w2.alloc (.cells #[.int .i64 o1, .int .i64 d1, .int .i64 a1, .int .i64 b1, .int .i64 (4 * ((j : Int) - k))] 39))) := hbel2.alloc hsz2 _
        clear hown2 hbel2
        go_wp2_with (at_builtin; refine wpList_append_own _ rfl _ _ 22 rfl w.heap.size 39 i0 _ 5 40 Tryz.underlying22 hi0 hz0 hz1 hz2 rfl (by decide) _ k _ rfl HW2.out ⟨w2.heap.size, 0, none⟩ 1 1 [.int .i64 o1, .int .i64 d1, .int .i64 a1, .int .i64 b1, .int .i64 (4 * ((j : Int) - k))] rfl rfl HN2.out H12.out (by unfold maxLen; omega) (by omega) HZ2.out ?_)
        intro v3 w3 hown3 hgrow3 _
        have hb3 : Below w.heap.size w w3 := HBB.out.grown hgrow3 HZ2.out (fun j ej => (HW2.out.lt j ej).1)
        obtain ⟨g3, c3, rfl⟩ := ownsRow_some hown3
        have HQ3 : Hid (w3.ownsRow w.heap.size 39 5 (.slice (some ⟨g3, 0, none⟩) (k + 1) c3) (k + 1) (ins (out.take (k + 1))) ∧ Below w.heap.size w w3) := ⟨by rw [HOUT.out]; exact hown3, hb3⟩
        clear hown3 hgrow3 hb3
        go_wp2
        exact ⟨⟨k + 1, g3, c3, by omega, by go_num, rfl, HQ3.out⟩, by simp [intOf]; omega⟩
    · obtain rfl : k = I := by omega
      have hqq := hq (by omega)
      subst hqq
      obtain ⟨⟨o1, d1, a1, b1, n1, pl1⟩, hx, hcase⟩ := HBad.out
      simp only at hcase
      obtain ⟨s0, s1, s2, s3, s4, s5, s6⟩ := (HD.out k _ _ hx).below hg hrr.out.2
      simp only at s0 s1 s2 s3 s4 s5
      obtain ⟨x1, hx1⟩ : ∃ x : ByteArray, (⟨pl1.toArray⟩ : ByteArray) = x := ⟨_, rfl⟩
      have s5' : wr.cell? ⟨g, k * 7 + 5, none⟩ = some (.string x1) := by rw [s5, ← hx1]
      clear s5
      have hgr : g < wr.heap.size := by have := hrr.out.2.size; omega
      have hzr : w.heap.size ≤ wr.heap.size := hrr.out.2.size
      have HB2 : Hid (∀ (A B : Obj), Below w.heap.size w ((wr.alloc A).alloc B)) := fun A B => (hrr.out.2.alloc hzr A).alloc (by simp; omega) B
      have hxd : x1.data.toList = pl1 := by rw [← hx1]
      rcases hcase with ⟨rfl, hpl, hpl2, hlk⟩ | ⟨rfl, N, hR, hcase⟩
      · have hxs : x1.size ≤ maxLen := by
          have : x1.data.toList.length = x1.size := by simp
          rw [hxd] at this
          unfold maxLen
          omega
        have hne : ¬ x1 = ⟨#[]⟩ := by
          intro e
          rw [e] at hxd
          exact hpl (by rw [← hxd])
        have hne2 : x1.toList.isEmpty = false := ba_ne x1 hne
        obtain ⟨i9, hlook1⟩ : ∃ i9 : Int, (Instr.lookup 53 (.map (some b)) (.string x1) true).run Tryz.prog ((wr.alloc (.cells #[.int .i64 o1, .int .i64 d1, .int .i64 a1, .int .i64 b1, .int .i64 n1, .string x1, .int .i64 fl] 71)).alloc (.cells #[.int .i64 o1, .int .i64 d1, .int .i64 a1, .int .i64 b1, .int .i64 n1] 39)) = .ok (.tuple #[.int .i64 i9, .bool false]) ((wr.alloc (.cells #[.int .i64 o1, .int .i64 d1, .int .i64 a1, .int .i64 b1, .int .i64 n1, .string x1, .int .i64 fl] 71)).alloc (.cells #[.int .i64 o1, .int .i64 d1, .int .i64 a1, .int .i64 b1, .int .i64 n1] 39)) := by
          have hb := HB2.out (.cells #[.int .i64 o1, .int .i64 d1, .int .i64 a1, .int .i64 b1, .int .i64 n1, .string x1, .int .i64 fl] 71) (.cells #[.int .i64 o1, .int .i64 d1, .int .i64 a1, .int .i64 b1, .int .i64 n1] 39)
          have hpw : PlAt _ b n ps := HP.out.kept (row := none) ⟨hb.os, hb.tape, hb.output, hb.size, fun j hj _ => hb.block j hj⟩ (by simp)
          obtain ⟨v, hrun, hv⟩ := look_any hpw x1 hxs
          rw [hxd, hlk] at hrun
          exact ⟨v, hrun⟩
        clear hxd hpl hpl2 hlk hx1 hx
        have HFin : Hid (∀ A B C : Obj, (((wr.alloc A).alloc B).alloc C).heap[wr.heap.size + 1 + 1]? = some C ∧ w.heap.size ≤ wr.heap.size + 1 + 1 ∧ Below w.heap.size w (((wr.alloc A).alloc B).alloc C)) := fun A B C => ⟨by
          have := heap_alloc_last ((wr.alloc A).alloc B) C
          simpa using this, by omega, (HB2.out A B).alloc (by simp; omega) C⟩
        go_wp2_with fail
        go_region
        all_goals go_wp2
        all_goals go_ret2
        all_goals exact ⟨_, rfl, (HFin.out _ _ _).1, (HFin.out (.map #[] 0) (.map #[] 0) (.map #[] 0)).2.1, (HFin.out _ _ _).2.2.drew⟩
      · have HRT : Hid (∀ W', Below w.heap.size w W' → Calls Tryz.prog 36 #[instV o1 d1 a1 b1 N] W' fun e w'' => e = .returned (.bool false) ∧ Below W'.heap.size W' w'') := fun W' hb => by
          have := right_T o1 d1 a1 b1 N W' (HE.out W' hb).tab
          rw [hR] at this
          exact this
        have HFin : Hid (∀ (A B : Obj) (w2 : World), A = .cells #[.int .i64 o1, .int .i64 d1, .int .i64 a1, .int .i64 b1, .int .i64 n1, .string x1, .int .i64 fl] 71 → Below ((wr.alloc A).alloc B).heap.size ((wr.alloc A).alloc B) w2 → w2.cell? ⟨wr.heap.size, 6, none⟩ = some (.int .i64 fl) ∧ ∀ C : Obj, (w2.alloc C).heap[w2.heap.size]? = some C ∧ w.heap.size ≤ w2.heap.size ∧ Below w.heap.size w (w2.alloc C)) := fun A B w2 hA hb => by
          have hz2 : w.heap.size ≤ w2.heap.size := by have := hb.size; simp at this; omega
          refine ⟨?_, fun C => ⟨heap_alloc_last w2 C, hz2, ((HB2.out A B).trans (hb.mono (by simp; omega))).alloc hz2 C⟩⟩
          have hrow : w2.heap[wr.heap.size]? = some A := by
            rw [hb.block wr.heap.size (by simp; omega), Below.heap_alloc _ B _ (by simp)]
            exact heap_alloc_last wr A
          rw [hA] at hrow
          rw [cell_of_row _ _ _ _ _ _ hrow]
          rfl
        rcases hcase with ⟨hpl, rfl⟩ | ⟨hpl, hpl2, j, hj, hlk, rfl⟩
        · subst hpl
          subst hx1
          clear hx hxd hR
          go_wp2_with (go_at_call 36; fail)
          refine (HRT.out _ (HB2.out _ _)).mono ?_
          rintro e w2 ⟨rfl, hb2⟩
          obtain ⟨t6, hfin⟩ := HFin.out _ _ w2 rfl hb2
          have HF2 : Hid (∀ C : Obj, (w2.alloc C).heap[w2.heap.size]? = some C ∧ w.heap.size ≤ w2.heap.size ∧ Below w.heap.size w (w2.alloc C)) := hfin
          clear hfin hb2
          go_wp2_with fail
          go_region
          all_goals go_wp2
          all_goals go_ret2
          all_goals exact ⟨_, rfl, (HF2.out _).1, (HF2.out (.map #[] 0)).2.1, (HF2.out _).2.2.drew⟩
        · have hxs : x1.size ≤ maxLen := by
            have : x1.data.toList.length = x1.size := by simp
            rw [hxd] at this
            unfold maxLen
            omega
          have hne : ¬ x1 = ⟨#[]⟩ := by
            intro e
            rw [e] at hxd
            exact hpl (by rw [← hxd])
          have hne2 : x1.toList.isEmpty = false := ba_ne x1 hne
          have hlook1 : (Instr.lookup 53 (.map (some b)) (.string x1) true).run Tryz.prog ((wr.alloc (.cells #[.int .i64 o1, .int .i64 d1, .int .i64 a1, .int .i64 b1, .int .i64 n1, .string x1, .int .i64 fl] 71)).alloc (.cells #[.int .i64 o1, .int .i64 d1, .int .i64 a1, .int .i64 b1, .int .i64 n1] 39)) = .ok (.tuple #[.int .i64 (j : Int), .bool true]) ((wr.alloc (.cells #[.int .i64 o1, .int .i64 d1, .int .i64 a1, .int .i64 b1, .int .i64 n1, .string x1, .int .i64 fl] 71)).alloc (.cells #[.int .i64 o1, .int .i64 d1, .int .i64 a1, .int .i64 b1, .int .i64 n1] 39)) := by
            have hb := HB2.out (.cells #[.int .i64 o1, .int .i64 d1, .int .i64 a1, .int .i64 b1, .int .i64 n1, .string x1, .int .i64 fl] 71) (.cells #[.int .i64 o1, .int .i64 d1, .int .i64 a1, .int .i64 b1, .int .i64 n1] 39)
            have hpw : PlAt _ b n ps := HP.out.kept (row := none) ⟨hb.os, hb.tape, hb.output, hb.size, fun j hj _ => hb.block j hj⟩ (by simp)
            obtain ⟨v, hrun, hv⟩ := look_any hpw x1 hxs
            rw [hxd, hlk] at hrun
            rw [hxd] at hv
            rw [hv j hlk] at hrun
            exact hrun
          clear hxd hpl hpl2 hlk hx1 hx hR
          go_wp2_with (go_at_call 36; fail)
          refine (HRT.out _ (HB2.out _ _)).mono ?_
          rintro e w2 ⟨rfl, hb2⟩
          obtain ⟨t6, hfin⟩ := HFin.out _ _ w2 rfl hb2
          have HF2 : Hid (∀ C : Obj, (w2.alloc C).heap[w2.heap.size]? = some C ∧ w.heap.size ≤ w2.heap.size ∧ Below w.heap.size w (w2.alloc C)) := hfin
          clear hfin hb2
          go_wp2_with fail
          go_region
          all_goals go_wp2
          all_goals go_ret2
          all_goals exact ⟨_, rfl, (HF2.out _).1, (HF2.out (.map #[] 0)).2.1, (HF2.out _).2.2.drew⟩
end Go.Proofs.YtjjjdplgdlaihaaGreatDoor
