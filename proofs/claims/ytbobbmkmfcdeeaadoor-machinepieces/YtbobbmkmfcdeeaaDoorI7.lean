/- The fact 'driven', walked: a machine that tells 5. -/
import Derived.Test.YtbobbmkmfcdeeaaDoorI5
import Derived.Test.YtbobbmkmfcdeeaaDoorI6
namespace Go.Proofs.YtbobbmkmfcdeeaaDoor
open Go Go.RowKit

theorem info54 : (Tryd.prog.info? 54).map (fun i => (i.zero, i.size, i.bytes)) = some (some (.int .u32 0), 1, 4) := by kernel_rfl

abbrev u32L (l : List Int) : List Value := l.map fun x => Value.int .u32 x

def insCells : List Value := insL.flatMap fun i => [.int .i64 i.o, .int .i64 i.d, .int .i64 i.a, .int .i64 i.b, .int .i64 i.n]

theorem insCells_get (j t : Nat) (hj : j < 6) (ht : t < 5) : insCells[j * 5 + t]? = some (match t with | 0 => .int .i64 (insL.getD j ⟨0, 0, 0, 0, 0⟩).o | 1 => .int .i64 (insL.getD j ⟨0, 0, 0, 0, 0⟩).d | 2 => .int .i64 (insL.getD j ⟨0, 0, 0, 0, 0⟩).a | 3 => .int .i64 (insL.getD j ⟨0, 0, 0, 0, 0⟩).b | _ => .int .i64 (insL.getD j ⟨0, 0, 0, 0, 0⟩).n) := by
  have h1 : j = 0 ∨ j = 1 ∨ j = 2 ∨ j = 3 ∨ j = 4 ∨ j = 5 := by omega
  have h2 : t = 0 ∨ t = 1 ∨ t = 2 ∨ t = 3 ∨ t = 4 := by omega
  rcases h1 with rfl | rfl | rfl | rfl | rfl | rfl <;> rcases h2 with rfl | rfl | rfl | rfl | rfl <;> rfl

/-- What the loop keeps. -/
structure DrC (w wr : World) (j : Nat) (v : Value) : Prop where
  own : wr.ownsRow w.heap.size 54 1 v j (u32L (wordL.take j))
  bel : Below w.heap.size w wr
  row : wr.heap[w.heap.size]? = some (.cells insCells.toArray 71)
  ne : v.ownBlock ≠ some w.heap.size

theorem own_form' {w : World} {B e n : Nat} {v : Value} {xs : List Value} (h : w.ownsRow B e 1 v n xs) : ∃ q c, v = .slice q n c := by
  rcases h.2 with ⟨h1, h2⟩ | ⟨g, cap, cur, hv, _⟩
  · exact ⟨none, 0, by rw [h1, h2]⟩
  · exact ⟨_, _, hv⟩

theorem take_wordL (j : Nat) (hj : j < 6) : wordL.take (j + 1) = wordL.take j ++ [wordL.getD j 0] := by
  have h1 : j = 0 ∨ j = 1 ∨ j = 2 ∨ j = 3 ∨ j = 4 ∨ j = 5 := by omega
  rcases h1 with rfl | rfl | rfl | rfl | rfl | rfl <;> rfl

theorem wordL_rng (j : Nat) (hj : j < 6) : 0 ≤ wordL.getD j 0 ∧ wordL.getD j 0 < 4294967296 := by
  rw [wordL_get j hj]; exact Wd_range _ _ _ _ _ (insL_rt j hj)

/-- Run of that machine: what it tells. -/
theorem drive_run (w : World) (B s mb : Nat) (gv ov : Value) (h : Mac w B s mb 64 (newV 64 wordL []) gv ov) (ht : Tabs T w) :
    Calls Tryd.prog 17 #[.pointer (some ⟨s, 0, none⟩), .int .i64 100] w fun e w' => ∃ C v', e = .returned (.agg #[.int .i64 1, .int .i64 C, v']) ∧ w'.ownsRow w.heap.size 2 1 v' 1 [.int .i64 5] ∧ w'.cell? ⟨s, 33, none⟩ = some (.int .i64 20) ∧ Below B w w' := by
  obtain ⟨d1, d2, d3⟩ := drive
  refine (run_any w B s mb 64 100 _ gv ov h ht (by omega)).mono ?_
  rintro e w' ⟨v', gv', ov', rfl, r⟩
  refine ⟨_, v', by rw [wayV_1 d1 (by omega)], ?_, ?_, r.off.below (by have := h.core.s0; have := h.Bs; omega) ?_⟩
  · have := r.own
    rw [d2] at this
    exact this
  · have := r.mac.core.pc
    rw [d3] at this
    exact this
  · have b2 := h.Bs
    have b3 := h.Bm
    rintro i hi (e | e | e)
    · omega
    · omega
    · have := (h.ob e).1; omega

set_option maxRecDepth 100000 in
set_option maxHeartbeats 2000000 in
theorem driven_any (w : World) (ht : Tabs T w) :
    Calls Tryd.prog 19 #[] w fun e w' => e = .returned (.bool true) ∧ Below w.heap.size w w' := by
  have HT : Hid (Tabs T w) := ht
  have hz1 : 1 < w.heap.size := (ht 1 (by omega) (by omega)).z1
  clear ht
  obtain ⟨i0, hi0, hi1, hi2, hi3⟩ := info_parts info54
  go_enter Tryd.func19, Tryd.ntmps19
  go_wp2_with fail
  generalize hW : World.alloc w _ = W
  have HD0 : Hid (DrC w W 0 (.slice none 0 0)) := by
    rw [← hW]
    exact ⟨World.ownsRow_nil _ _ _ _, (Below.refl _ _).alloc (Nat.le_refl _) _, heap_alloc_last w _, by simp [Value.ownBlock]⟩
  clear hW
  go_loopw [1, 17] (fun v i wr => ∃ j : Nat, j ≤ 6 ∧ i = .int .i64 j ∧ Hid (DrC w wr j v)) (fun _ i _ => 6 - (intOf i).toNat)
  case atStart => exact ⟨0, by omega, rfl, HD0⟩
  case round =>
    obtain ⟨j, hj, rfl, hd⟩ := hrel
    by_cases hlt : j < 6
    · obtain ⟨q, c, hv⟩ := own_form' hd.out.own
      subst hv
      have x0 : wr.cell? ⟨w.heap.size, j * 5, none⟩ = some (.int .i64 (insL.getD j ⟨0, 0, 0, 0, 0⟩).o) := by rw [cell_of_row _ _ _ _ _ _ hd.out.row]; simpa using insCells_get j 0 hlt (by omega)
      have x1 : wr.cell? ⟨w.heap.size, j * 5 + 1, none⟩ = some (.int .i64 (insL.getD j ⟨0, 0, 0, 0, 0⟩).d) := by rw [cell_of_row _ _ _ _ _ _ hd.out.row]; simpa using insCells_get j 1 hlt (by omega)
      have x2 : wr.cell? ⟨w.heap.size, j * 5 + 2, none⟩ = some (.int .i64 (insL.getD j ⟨0, 0, 0, 0, 0⟩).a) := by rw [cell_of_row _ _ _ _ _ _ hd.out.row]; simpa using insCells_get j 2 hlt (by omega)
      have x3 : wr.cell? ⟨w.heap.size, j * 5 + 3, none⟩ = some (.int .i64 (insL.getD j ⟨0, 0, 0, 0, 0⟩).b) := by rw [cell_of_row _ _ _ _ _ _ hd.out.row]; simpa using insCells_get j 3 hlt (by omega)
      have x4 : wr.cell? ⟨w.heap.size, j * 5 + 4, none⟩ = some (.int .i64 (insL.getD j ⟨0, 0, 0, 0, 0⟩).n) := by rw [cell_of_row _ _ _ _ _ _ hd.out.row, List.getElem?_toArray]; exact insCells_get j 4 hlt (by omega)
      have HE : Hid (∀ w', Below w.heap.size w w' → Calls Tryd.prog 40 #[instV (insL.getD j ⟨0, 0, 0, 0, 0⟩).o (insL.getD j ⟨0, 0, 0, 0, 0⟩).d (insL.getD j ⟨0, 0, 0, 0, 0⟩).a (insL.getD j ⟨0, 0, 0, 0, 0⟩).b (insL.getD j ⟨0, 0, 0, 0, 0⟩).n] w' fun e w'' => e = .returned (.tuple #[.int .u32 (wordL.getD j 0), .nilIface]) ∧ Below w'.heap.size w' w'') := fun w' hb => by
        rw [wordL_get j hlt]
        exact encode_ok _ _ _ _ _ w' (HT.out.below hb) (insL_rt j hlt)
      have HTK := take_wordL j hlt
      have HTK' : Hid (wordL.take (j + 1) = wordL.take j ++ [wordL.getD j 0]) := HTK
      clear HTK
      generalize wordL.getD j 0 = x at *
      generalize insL.getD j ⟨0, 0, 0, 0, 0⟩ = ii at *
      obtain ⟨o, d, a, b, n⟩ := ii
      simp only at x0 x1 x2 x3 x4 HE
      have hlw : w.heap.size < wr.heap.size := block_lt_of_cell x0
      go_wp2_with (go_at_call 40; fail)
      have BA : Hid (Below w.heap.size w (wr.alloc (.cells #[.int .i64 o, .int .i64 d, .int .i64 a, .int .i64 b, .int .i64 n] 71))) := hd.out.bel.alloc (by omega) _
      refine (HE.out _ BA.out).mono ?_
      rintro e w5 ⟨rfl, hb⟩
      have l5 : wr.heap.size < w5.heap.size := by have := hb.size; simp at this; omega
      have HOW : Hid (w5.ownsRow w.heap.size 54 1 (.slice q j c) j (u32L (wordL.take j))) := ownsRow_block (World.ownsRow.alloc hd.out.own _) fun k hk => hb.block k (by have := (hd.out.own.lt k hk).2; simp; omega)
      have HB5 : Hid (Below w.heap.size w w5) := BA.out.trans (hb.mono (by simp; omega))
      have HR5 : Hid (w5.heap[w.heap.size]? = some (.cells insCells.toArray 71)) := by
        show _ = _
        rw [hb.block _ (by simp; omega), Below.heap_alloc _ _ _ hlw]; exact hd.out.row
      have HNE : Hid ((Value.slice q j c).ownBlock ≠ some w.heap.size) := hd.out.ne
      clear hb BA x0 x1 x2 x3 x4 hd
      go_wp2_with (at_builtin; refine wpList_append_lies _ rfl _ _ 22 rfl w.heap.size 54 i0 (.int .u32 0) 1 4 Tryd.underlying22 hi0 hi1 hi2 hi3 rfl (by decide) (.slice q j c) j (u32L (wordL.take j)) rfl (HOW.out.alloc _) ⟨w5.heap.size, 0, none⟩ 1 1 [.int .u32 x] rfl rfl (World.news_of_block (cs := #[.int .u32 x]) (t := 54) (fr := (0, 0)) (heap_alloc_last w5 _)) (fun u hu => by simp at hu; subst hu; rfl) (by omega) (by unfold maxLen; omega) (by omega) (by simp; omega) _ rfl ?_; intro g cap w7 hown hgrow hat hlt7; have HX : Hid (World.ownsRow _ _ _ _ _ _ _) := hown; have HA : Hid (_ ∨ _) := hat; have HG : Hid (World.grownBy _ _ _) := hgrow; clear hown hat hgrow hlt7)
      refine ⟨⟨j + 1, by omega, by go_num, ?_⟩, by simp [intOf]; omega⟩
      refine ⟨?_, ?_, ?_, ?_⟩
      · rw [HTK'.out]; simpa [u32L] using HX.out
      · exact (HB5.out.alloc (by omega) _).grown HG.out (by simp; omega) (fun k e => (HOW.out.lt k e).1)
      · rw [HG.out.block _ (by simp; omega) (fun e => HNE.out e.symm), Below.heap_alloc _ _ _ (by omega)]; exact HR5.out
      · intro e
        have e' : g = w.heap.size := by simpa [Value.ownBlock] using e
        rcases HA.out with h | h
        · rw [e'] at h; exact HNE.out h
        · simp at h; omega
    · obtain rfl : j = 6 := by omega
      obtain ⟨g, cap, hv, hg, hgl⟩ := hd.out.own.form (by omega)
      subst hv
      have HNEW : Hid (Calls Tryd.prog 7 #[.slice (some ⟨g, 0, none⟩) 6 cap, .int .i64 64, .slice none 0 0] wr fun e w' => ∃ s, e = .returned (.tuple #[.pointer (some ⟨s, 0, none⟩), .nilIface]) ∧ ∃ mb gv, Mac w' wr.heap.size s mb 64 (newV 64 wordL []) gv (.slice none 0 0) ∧ Below wr.heap.size wr w' ∧ ∀ k, gv.ownBlock = some k → wr.heap.size ≤ k ∧ k < s) := by
        refine new_core wr g 0 cap wordL 64 (.slice none 0 0) [] (by omega) (by omega) (by decide) (by decide) ⟨?_, fun j hj => ?_, fun j hj => wordL_rng j hj⟩ (.inl ⟨rfl, rfl⟩) (by simp) (by omega)
        · rcases hd.out.own.2 with ⟨h1, _⟩ | ⟨g', cap', cur, hv', _, _, h3, _⟩
          · cases h1
          · simp at hv'
            rw [hv'.2]
            exact h3
        · have hj6 : j < 6 := hj
          have := hd.out.own.cells (g := g) rfl j (.int .u32 (wordL.getD j 0)) (by
            have h1 : j = 0 ∨ j = 1 ∨ j = 2 ∨ j = 3 ∨ j = 4 ∨ j = 5 := by omega
            rcases h1 with rfl | rfl | rfl | rfl | rfl | rfl <;> rfl)
          have e : (⟨g, 0, none⟩ : Addr).add j = ⟨g, j, none⟩ := by unfold Addr.add; split <;> simp_all
          rw [e] at this
          rw [Nat.zero_add]
          exact this
      have HTR : Hid (Tabs T wr) := HT.out.below hd.out.bel
      have HBR : Hid (Below w.heap.size w wr) := hd.out.bel
      have hzr : w.heap.size ≤ wr.heap.size := hd.out.bel.size
      clear hd
      go_wp2_with (go_at_call 7; fail)
      refine HNEW.out.mono ?_
      rintro e w8 ⟨s, rfl, mb, gv, hm, hb8, -⟩
      have HB8 : Hid (Below wr.heap.size wr w8) := hb8
      have HRUN : Hid (Calls Tryd.prog 17 #[.pointer (some ⟨s, 0, none⟩), .int .i64 100] w8 fun e w' => ∃ C v', e = .returned (.agg #[.int .i64 1, .int .i64 C, v']) ∧ w'.ownsRow w8.heap.size 2 1 v' 1 [.int .i64 5] ∧ w'.cell? ⟨s, 33, none⟩ = some (.int .i64 20) ∧ Below wr.heap.size w8 w') := drive_run w8 _ s mb gv _ hm (HTR.out.below hb8)
      clear hm hb8
      go_wp2_with (go_at_call 17; fail)
      refine HRUN.out.mono ?_
      rintro e w9 ⟨C, v', rfl, hown, hpc, hb9⟩
      obtain ⟨q', c', hv'⟩ := own_form' hown
      subst hv'
      have HB9 : Hid (Below w.heap.size w w9) := HBR.out.trans ((HB8.out.trans hb9).mono hzr)
      have hsz9 : w.heap.size ≤ w9.heap.size := by have := HB9.out.size; omega
      have HEQ : Hid (∀ w', Below w9.heap.size w9 w' → ∀ v2, Rd w' v2 [5] → Calls Tryd.prog 21 #[.slice q' 1 c', v2] w' fun e w'' => e = .returned (.bool true) ∧ Below w'.heap.size w' w'') := fun w' hb v2 h2 =>
        equal_same w' _ v2 [5] ((Rd.of_own (l := [5]) hown).below hb) h2 (by simp)
      have HPC : Hid (∀ w', Below w9.heap.size w9 w' → Calls Tryd.prog 22 #[.pointer (some ⟨s, 0, none⟩)] w' fun e w'' => e = .returned (.int .i64 20) ∧ w'' = w') := fun w' hb => pc_any w' s 20 (by rw [hb.cell (block_lt_of_cell hpc)]; exact hpc)
      clear hown hpc hb9
      have BQ : Hid (Below w9.heap.size w9 ((w9.alloc (.cells #[.int .i64 1, .int .i64 C, .slice q' 1 c'] 44)).alloc (.cells #[.int .i64 5] 2))) := ((Below.refl _ _).alloc (Nat.le_refl _) _).alloc (by simp) _
      have RQ : Hid (Rd ((w9.alloc (.cells #[.int .i64 1, .int .i64 C, .slice q' 1 c'] 44)).alloc (.cells #[.int .i64 5] 2)) (.slice (some ⟨w9.heap.size + 1, 0, none⟩) 1 1) [5]) := by
        refine ⟨_, _, rfl, fun _ => ⟨w9.heap.size + 1, 0, rfl, fun j hj => ?_⟩⟩
        obtain rfl : j = 0 := by simpa using hj
        rw [cell_of_row _ _ _ _ _ _ (heap_alloc2_new w9 _ _)]; rfl
      go_wp2_with (first
        | (go_at_call 21; refine (HEQ.out _ BQ.out _ RQ.out).mono ?_; rintro e w10 ⟨rfl, hb10⟩; have HB10 : Hid (Below _ _ w10) := hb10; clear hb10)
        | (go_at_call 22; refine (HPC.out _ (BQ.out.trans (HB10.out.mono (by simp; omega)))).mono ?_; rintro e w11 ⟨rfl, rfl⟩))
      go_ret
      exact ⟨rfl, HB9.out.trans ((BQ.out.trans (HB10.out.mono (by simp; omega))).mono hsz9)⟩
end Go.Proofs.YtbobbmkmfcdeeaaDoor
