/- strconv.AppendInt onto the bytes of a string. -/
import Derived.Test.YtjjjdplgdlaihaaGreatDoorO0
import Derived.Lib.OthersKept
import Derived.Lib.AppendIntMem
import Derived.Lib.BufferKept
import Derived.Lib.ItoaMem
namespace Go.Proofs.YtjjjdplgdlaihaaGreatDoor
open Go Go.RowKit

/-- What is kept: whatever lies below n; whatever is no row of bytes. -/
structure Kp (n : Nat) (w w' : World) : Prop where
  low : Below n w w'
  oth : Lib.OthersKept 5 none w w'
theorem Kp.refl (n : Nat) (w : World) : Kp n w w := ⟨Below.refl _ _, Lib.OthersKept.refl _ _ _⟩
theorem Kp.trans {n : Nat} {a b c : World} (h : Kp n a b) (k : Kp n b c) : Kp n a c := ⟨h.low.trans k.low, h.oth.trans k.oth⟩
theorem Kp.alloc {n : Nat} {a b : World} (h : Kp n a b) (hn : n ≤ b.heap.size) (o : Obj) : Kp n a (b.alloc o) := ⟨h.low.alloc hn o, h.oth.alloc o⟩
theorem Kp.drew {n : Nat} {a b : World} (h : Kp n a b) : Kp n a b.drew := ⟨h.low.trans ⟨rfl, rfl, rfl, Nat.le_refl _, fun _ _ => rfl⟩, h.oth.drew⟩
theorem Kp.below {n : Nat} {a b c : World} (h : Kp n a b) (hn : n ≤ b.heap.size) (hb : Below b.heap.size b c) : Kp n a c := ⟨h.low.trans (hb.mono hn), h.oth.below hb⟩
theorem Kp.grown {n : Nat} {a w w' : World} {v : Value} {bs : By} (h : Kp n a w) (hn : n ≤ w.heap.size) (ho : OwnB n w v bs) (hg : w.grownBy w' v.ownBlock) : Kp n a w' :=
  ⟨h.low.grown hg hn (fun j ej => (ho.lt j ej).1), h.oth.grown hg ho.kind⟩

theorem info5 : (Tryz.prog.info? 5).map (fun i => (i.zero, i.size, i.bytes)) = some (some (.int .u8 0), 1, 1) := by kernel_rfl

set_option maxHeartbeats 2000000 in
set_option maxRecDepth 100000 in
theorem auint_small (B u : Nat) (hu : u < 100) (v : Value) (bs : By) (w : World) (hown : OwnB B w v bs) (hB : B ≤ w.heap.size) (hl : bs.length + 20 ≤ 140737488355328) :
    Calls Tryz.prog 98 #[v, .int .u64 u, .int .i64 10] w fun e w' => ∃ v', e = .returned v' ∧ OwnB B w' v' (bs ++ Lib.decDigits u) ∧ Kp B w w' := by
  obtain ⟨i0, hi, hz0, hz1, hz2⟩ := info_parts info5
  have hlen : (Lib.decDigits u).length ≤ 20 := by
    rw [Lib.decDigits_length]
    by_cases h10 : u < 10
    · rw [Lib.nDigits_small h10]; omega
    · rw [Lib.nDigits_big h10, Lib.nDigits_small (show u / 10 < 10 by omega)]; omega
  have HO : Hid (OwnB B w v bs) := hown
  have HL : Hid (bs.length + (Lib.decDigits u).length ≤ 140737488355328) := by show _ ≤ _; omega
  clear hown hl hlen
  go_enter Tryz.func98, Tryz.ntmps98
  go_wp2_with (first
    | (go_at_call 93; refine (Tryz.internal_strconv_small u hu _).mono ?_; rintro e w' ⟨rfl, rfl⟩)
    | (at_builtin; refine wpl_app_str _ rfl _ _ 88 9 rfl B i0 Tryz.underlying88 Tryz.underlying9 hi hz0 hz1 hz2 _ bs (Lib.decDigits u) rfl HO.out rfl HL.out hB ?_))
  intro v' w1 hown' hgrow
  have HK : Hid (Kp B w' w1) := (Kp.refl B w').grown hB HO.out hgrow
  have HP : Hid (OwnB B w1 v' (bs ++ Lib.decDigits u)) := hown'
  clear hown' hgrow
  go_wp2
  go_ret
  exact ⟨v', rfl, HP.out, HK.out⟩

abbrev bV (b : UInt8) : Value := .int .u8 (b.toNat : Int)

set_option maxHeartbeats 4000000 in
set_option maxRecDepth 100000 in
theorem auint_big (B u : Nat) (hu : 100 ≤ u) (hu64 : u < 18446744073709551616) (v : Value) (bs : By) (w : World) (hown : OwnB B w v bs) (hB : B ≤ w.heap.size) (hl : bs.length + 20 ≤ 140737488355328)
    (htab : Lib.TabIs Tryz.prog w "internal/strconv.uint64pow10" .u64 Lib.pow10Tab) :
    Calls Tryz.prog 98 #[v, .int .u64 u, .int .i64 10] w fun e w' => ∃ v', e = .returned v' ∧ OwnB B w' v' (bs ++ Lib.decDigits u) ∧ Kp B w w' := by
  obtain ⟨i0, hi, hz0, hz1, hz2⟩ := info_parts info5
  have hu1 : 1 ≤ u := by omega
  have hnd : Lib.nDigits u ≤ 20 := by have := Lib.numDigits_eq u hu1 hu64; split at this <;> omega
  have hal : Tryz.prog.arrayLen 161 = 24 := by kernel_rfl
  have hsl : ∀ W, (Instr.sliceAt 161 (.pointer (some ⟨w.heap.size, 0, none⟩)) none (some (.int .i64 (Lib.nDigits u : Int))) none).run Tryz.prog W = .ok (.slice (some ⟨w.heap.size, 0, none⟩) (Lib.nDigits u) 24) W := fun W => by
    rw [run_sliceAt_array_h W 161 ⟨w.heap.size, 0, none⟩ (by kernel_rfl) .i64 (Lib.nDigits u : Int) (by omega) (by rw [hal]; omega)]
    rw [hal]
    go_simp
  have hH := Lib.holds_zero0 w 161 (Lib.nDigits u) (by omega)
  have hfmt := Tryz.internal_strconv_formatBase10 w.heap.size 0 24 u (Array.replicate (Lib.nDigits u) 0) (w.alloc (.cells Lib.zeros24 161)) hH (by rw [Array.size_replicate]; exact Lib.lt_pow_nDigits u) hu64 (by rw [Array.size_replicate]; omega)
  rw [Array.size_replicate] at hfmt
  have HF : Hid (Calls Tryz.prog 95 #[.slice (some ⟨w.heap.size, 0, none⟩) (Lib.nDigits u) 24, .int .u64 u] (w.alloc (.cells Lib.zeros24 161)) fun e w' => e = .returned (.tuple #[]) ∧ Below w.heap.size w w' ∧ ∀ j x, (Lib.byteCells (Lib.decDigits u))[j]? = some x → w'.cell? ((⟨w.heap.size, 0, none⟩ : Addr).add j) = some x) := by
    refine hfmt.mono ?_
    rintro e w' ⟨he, k, v', dk, rfl, hF⟩
    refine ⟨he, ?_, fun j x hj => ?_⟩
    · obtain ⟨os, eo⟩ := Lib.fin_at w (.cells Lib.zeros24 161) dk k 0
      rw [eo]
      exact Lib.below_grow w.heap.size w (Nat.le_refl _) k os
    · have hjl : j < (Lib.decDigits u).length := by
        have h5 := (List.getElem?_eq_some_iff.1 hj).1
        rwa [Lib.byteCells_length] at h5
      have e5 : (Lib.byteCells (Lib.decDigits u))[j]? = some (bV (Lib.decDigits u)[j]) := by simp [Lib.byteCells, hjl]
      rw [e5] at hj
      cases hj
      rw [Lib.row_is_numeral hF j hjl, Lib.add_plain, World.cell?_drewN]
      exact Sort.cell?_putRow bV _ w.heap.size 0 _ dk hH (by rw [hF.size, Array.size_replicate]) j (by rw [hF.size]; rw [Lib.decDigits_length] at hjl; exact hjl)
  have HO : Hid (OwnB B w v bs) := hown
  have hdl := Lib.decDigits_length u
  have HL : Hid (bs.length + (Lib.decDigits u).length ≤ 140737488355328) := by show _ ≤ _; omega
  have HD : Hid ((Lib.decDigits u).length = Lib.nDigits u) := hdl
  have HND : Hid (∀ W, Below w.heap.size w W → Calls Tryz.prog 94 #[.int .u64 u] W fun e w' => e = .returned (.int .i64 (Lib.nDigits u)) ∧ w' = W) := fun W hb => Tryz.internal_strconv_numDigits u hu1 hu64 W (Lib.tabBelow_of_tabIs htab W hb)
  have HB0 : Hid (Below w.heap.size w (w.alloc (.cells Lib.zeros24 161))) := (Below.refl _ _).alloc (Nat.le_refl _) _
  have iu : (100 : Int) ≤ (u : Int) := by omega
  clear hown hl hfmt hH hdl htab hal
  go_enter Tryz.func98, Tryz.ntmps98
  go_wp2_with (go_at_call 94; refine (HND.out _ HB0.out).mono ?_; rintro e w' ⟨rfl, rfl⟩)
  go_at_call 95
  refine HF.out.mono ?_
  rintro e W2 ⟨rfl, hb2, hc2⟩
  have HO2 : Hid (OwnB B W2 v bs) := HO.out.below hb2
  have HC2 : Hid (∀ j x, (Lib.byteCells (Lib.decDigits u))[j]? = some x → W2.cell? ((⟨w.heap.size, 0, none⟩ : Addr).add j) = some x) := hc2
  have HS2 : Hid (B ≤ W2.heap.size) := Nat.le_trans hB hb2.size
  have HK2 : Hid (Kp B w W2) := (Kp.refl B w).below hB hb2
  clear hb2 hc2
  go_wp2_with (at_builtin; refine wpl_app _ rfl _ _ 88 rfl B i0 Tryz.underlying88 hi hz0 hz1 hz2 _ bs (Lib.decDigits u) rfl HO2.out ⟨w.heap.size, 0, none⟩ 24 ?c0 HC2.out HL.out HS2.out ?_)
  case c0 => rw [HD.out]; rfl
  intro v' w1 hown' hgrow
  have HK : Hid (Kp B w w1) := HK2.out.grown HS2.out HO2.out hgrow
  have HP : Hid (OwnB B w1 v' (bs ++ Lib.decDigits u)) := hown'
  clear hown' hgrow
  go_wp2
  go_ret
  exact ⟨v', rfl, HP.out, HK.out⟩

theorem auint_any (B u : Nat) (hu64 : u < 18446744073709551616) (v : Value) (bs : By) (w : World) (hown : OwnB B w v bs) (hB : B ≤ w.heap.size) (hl : bs.length + 20 ≤ 140737488355328)
    (htab : Lib.TabIs Tryz.prog w "internal/strconv.uint64pow10" .u64 Lib.pow10Tab) :
    Calls Tryz.prog 98 #[v, .int .u64 u, .int .i64 10] w fun e w' => ∃ v', e = .returned v' ∧ OwnB B w' v' (bs ++ Lib.decDigits u) ∧ Kp B w w' := by
  by_cases h : u < 100
  · exact auint_small B u h v bs w hown hB hl
  · exact auint_big B u (by omega) hu64 v bs w hown hB hl htab
end Go.Proofs.YtjjjdplgdlaihaaGreatDoor
