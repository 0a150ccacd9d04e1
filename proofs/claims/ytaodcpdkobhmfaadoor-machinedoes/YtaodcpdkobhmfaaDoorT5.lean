/- The document's Step, whole; its Run. -/
import Derived.Test.YtaodcpdkobhmfaaDoorT4
import Derived.Test.YtaodcpdkobhmfaaDoorMQ
import Derived.Test.YtaodcpdkobhmfaaDoorSE
import Derived.Test.YtaodcpdkobhmfaaDoorSF
import Derived.Test.YtaodcpdkobhmfaaDoorSG
import Derived.Test.YtaodcpdkobhmfaaDoorSH
import Derived.Test.YtaodcpdkobhmfaaDoorSI
import Derived.Test.YtaodcpdkobhmfaaDoorSJ
namespace Go.Proofs.YtaodcpdkobhmfaaDoor
open Go Go.RowKit

theorem DPost.more {w w' : World} {B s mb n n' L : Nat} {m : MS} {ov : Value} (h : DPost w B s mb n L m ov w') (hn : n ≤ n') : DPost w B s mb n' L m ov w' := by
  obtain ⟨gv', ov', hm, ho, hk⟩ := h
  exact ⟨gv', ov', hm.more hn, ho, hk⟩

theorem up1 {w : World} {B s mb n L : Nat} {m m' : MS} {ov : Value} (h : Calls Tryd.prog 10 #[.pointer (some ⟨s, 0, none⟩)] w fun e w' => e = .returned (.tuple #[]) ∧ DPost w B s mb n L m ov w') (e : m' = m) :
    Calls Tryd.prog 10 #[.pointer (some ⟨s, 0, none⟩)] w fun e w' => e = .returned (.tuple #[]) ∧ DPost w B s mb (n + 1) L m' ov w' := by
  subst e
  exact h.mono fun e w' ⟨h1, h2⟩ => ⟨h1, h2.more (Nat.le_succ _)⟩

theorem docstep_any (w : World) (B s mb n L : Nat) (m : MS) (gv ov : Value) (h : DMac w B s mb n L m gv ov) (hL : L % 8 = 0) (hr : Wel L m) (hn : n < 100000) :
    Calls Tryd.prog 10 #[.pointer (some ⟨s, 0, none⟩)] w fun e w' => e = .returned (.tuple #[]) ∧ DPost w B s mb (n + 1) L (stepV L m) ov w' := by
  by_cases h0 : m.way = 0
  · have hc := hr.cod h0
    cases hh : hasB L m.pc 4 with
    | false =>
      refine up1 (dstep_far w B s mb n L m gv ov h hL hr.rng hc h0 hh) (stepV_none h0 ?_)
      unfold fetV; rw [hh]; rfl
    | true =>
      obtain ⟨p0, p4, pL⟩ := has_split hh
      obtain ⟨p, hp⟩ := Int.eq_ofNat_of_zero_le p0
      rw [hp] at hh p4 pL
      have hfe : fetV L m.M m.pc = decV (gthTo m.M p 4) := by unfold fetV; rw [hp, hh]; rfl
      have hg := gth_range m.M p 4 (fun i hi => hr.rng.M _ (by omega))
      have hL1 := h.core.L1
      have e4 : wrap64 (m.pc + 4) = (p : Int) + 4 := by rw [hp]; unfold wrap64; omega
      have g1 : gthTo m.M p 4 < 4294967296 := hg.2
      cases hd : decV (gthTo m.M p 4) with
      | none =>
        refine up1 (dstep_none w B s mb n L p m gv ov h hL hr.rng hc h0 hp hh fun w => decdoc_no _ w hg.1 g1 fun o d a b n hr' => decV_none hd ⟨o, d, a, b, n⟩ hr') (stepV_none h0 (hfe.trans hd))
      | some i =>
        have hf : fetV L m.M m.pc = some i := hfe.trans hd
        obtain ⟨hrt, hwd⟩ := decV_some hd
        obtain ⟨o1, o2, ⟨d0, d1⟩, ⟨a0, a1⟩, ⟨b0, b1⟩⟩ := In.parts hrt
        obtain ⟨n0, n1⟩ := In.num hrt
        have hnd := In.nod hrt
        have hd0 : ∀ w, Calls Tryd.prog 32 #[.int .u32 (gthTo m.M p 4)] w fun e w' => e = .returned (.tuple #[instV i.o i.d i.a i.b i.n, .int .i64 0]) ∧ Below w.heap.size w w' := fun w => by
          rw [← hwd]; exact decdoc_ok i.o i.d i.a i.b i.n w hrt
        obtain ⟨o, d, a, b, k⟩ := i
        simp only at o1 o2 d0 d1 a0 a1 b0 b1 n0 n1 hnd hd0
        obtain ⟨d, rfl⟩ := Int.eq_ofNat_of_zero_le d0
        obtain ⟨a, rfl⟩ := Int.eq_ofNat_of_zero_le a0
        obtain ⟨b, rfl⟩ := Int.eq_ofNat_of_zero_le b0
        have hdl : d < 32 := by omega
        have hal : a < 32 := by omega
        have hbl : b < 32 := by omega
        have wr : ∀ (v y : Int), (writeV m (d : Int) v).way = 0 := fun v _ => by rw [writeV_way]; exact h0
        by_cases c1 : o ≤ 13
        · refine up1 (dstep_r w B s mb n L p d a b k m gv ov o h hL hr.rng h0 hp hh hdl hal hbl o1 c1 hd0) ?_
          rw [stepV_some h0 hf (doV_r c1), if_pos (wr _ 0), e4]; rfl
        by_cases c2 : o ≤ 21
        · refine up1 (dstep_i w B s mb n L p d a b k m gv ov o h hL hr.rng h0 hp hh hdl hal hbl (by omega) c2 (by omega) (by omega) hd0) ?_
          rw [stepV_some h0 hf (doV_i c1 c2), if_pos (wr _ 0), e4]; rfl
        by_cases c3 : o = 22
        · subst c3
          cases hx : hasB L (wrap64 (m.R a + k)) 8 with
          | true =>
            refine up1 (dstep_ld w B s mb n L p d a b k m gv ov h hL hr.rng h0 hp hh hdl hal hbl hx hd0) ?_
            rw [stepV_some h0 hf (doV_ld rfl hx), if_pos (wr _ 0), e4]; rfl
          | false =>
            refine up1 (dstep_ld_no w B s mb n L p d a b k m gv ov h hL hr.rng h0 hp hh hdl hal hbl hc hx hd0) ?_
            rw [stepV_some h0 hf (doV_ld_no rfl hx), if_neg (by simp)]
        by_cases c4 : o = 23
        · subst c4
          refine up1 (dstep_23 w B s mb n L p d a b k m gv ov h hL hr.rng h0 hp hh hdl hal hbl hd0) ?_
          rw [stepV_some h0 hf (doV_jalr rfl), if_pos (wr _ 0), e4, even_bits _ (wrap64_in _)]; rfl
        by_cases c5 : o = 24
        · subst c5
          have dz : d = 0 := by have := hnd (by omega); omega
          cases hx : hasB L (wrap64 (m.R a + k)) 8 with
          | true =>
            have := dstep_sd w B s mb n L p d a b k m gv ov h hL hr.rng h0 hp hh hdl hal hbl dz hn hx hd0
            rw [stepV_some h0 hf (doV_sd rfl hx), if_pos (by exact h0), e4]
            exact this
          | false =>
            refine up1 (dstep_sd_no w B s mb n L p d a b k m gv ov h hL hr.rng h0 hp hh hdl hal hbl hc hx hd0) ?_
            rw [stepV_some h0 hf (doV_sd_no rfl hx), if_neg (by simp)]
        by_cases c6 : o = 29
        · subst c6
          refine up1 (dstep_29 w B s mb n L p d a b k m gv ov h hL hr.rng h0 hp hh hdl hal hbl hd0) ?_
          rw [stepV_some h0 hf (doV_lui rfl), if_pos (wr _ 0), e4]
        by_cases c7 : o = 30
        · subst c7
          refine up1 (dstep_30 w B s mb n L p d a b k m gv ov h hL hr.rng h0 hp hh hdl hal hbl hd0) ?_
          rw [stepV_some h0 hf (doV_jal rfl), if_pos (wr _ 0), e4, hp]
        by_cases c8 : o = 31
        · subst c8
          have dz : d = 0 := by have := hnd (by omega); omega
          by_cases hy : (callV m).way = 0
          · refine up1 (dstep_31 w B s mb n L p d a b k m gv ov h hL hr.rng h0 hp hh hdl hal hbl dz hc hy hd0) ?_
            rw [stepV_some h0 hf (doV_ecall rfl), if_pos hy, e4]
          · refine up1 (dstep_31_end w B s mb n L p d a b k m gv ov h hL hr.rng h0 hp hh hdl hal hbl dz hc hy hd0) ?_
            rw [stepV_some h0 hf (doV_ecall rfl), if_neg hy]
        have dz : d = 0 := by have := hnd (by omega); omega
        have eB : ∀ y, (if goesV o (m.R a) (m.R b) = true then wrap64 (m.pc + k) else wrap64 (m.pc + 4)) = y → stepV L m = { m with pc := y } := fun y hy => by
          rw [stepV_some h0 hf (doV_br (by show 25 ≤ o; omega) (by show o ≤ 28; omega)), if_pos h0]
          show ({ m with pc := if goesV o (m.R a) (m.R b) = true then wrap64 (m.pc + k) else wrap64 (m.pc + 4) } : MS) = _
          rw [hy]
        rcases (show o = 25 ∨ o = 26 ∨ o = 27 ∨ o = 28 by omega) with rfl | rfl | rfl | rfl
        · by_cases hg : m.R a = m.R b
          · exact up1 (dstep_25 w B s mb n L p d a b k m gv ov h hL hr.rng h0 hp hh hdl hal hbl dz hg hd0) (eB _ (by rw [if_pos (by simp [goesV, hg]), hp]))
          · exact up1 (dstep_25_no w B s mb n L p d a b k m gv ov h hL hr.rng h0 hp hh hdl hal hbl dz hg hd0) (eB _ (by rw [if_neg (by simp [goesV, hg]), e4]))
        · by_cases hg : m.R a = m.R b
          · exact up1 (dstep_26_no w B s mb n L p d a b k m gv ov h hL hr.rng h0 hp hh hdl hal hbl dz hg hd0) (eB _ (by rw [if_neg (by simp [goesV, hg]), e4]))
          · exact up1 (dstep_26 w B s mb n L p d a b k m gv ov h hL hr.rng h0 hp hh hdl hal hbl dz hg hd0) (eB _ (by rw [if_pos (by simp [goesV, hg]), hp]))
        · by_cases hg : m.R a < m.R b
          · exact up1 (dstep_27 w B s mb n L p d a b k m gv ov h hL hr.rng h0 hp hh hdl hal hbl dz hg hd0) (eB _ (by rw [if_pos (by simp [goesV, hg]), hp]))
          · exact up1 (dstep_27_no w B s mb n L p d a b k m gv ov h hL hr.rng h0 hp hh hdl hal hbl dz hg hd0) (eB _ (by rw [if_neg (by simpa [goesV] using hg), e4]))
        · by_cases hg : m.R b ≤ m.R a
          · exact up1 (dstep_28 w B s mb n L p d a b k m gv ov h hL hr.rng h0 hp hh hdl hal hbl dz hg hd0) (eB _ (by rw [if_pos (by simp [goesV, hg]), hp]))
          · exact up1 (dstep_28_no w B s mb n L p d a b k m gv ov h hL hr.rng h0 hp hh hdl hal hbl dz hg hd0) (eB _ (by rw [if_neg (by simpa [goesV] using hg), e4]))
  · rw [stepV_ended h0]
    exact up1 (dstep_ended w B s mb n L m gv ov h h0) rfl
end Go.Proofs.YtaodcpdkobhmfaaDoor
