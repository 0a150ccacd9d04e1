/- strconv.AppendInt onto the bytes of a string: every number. -/
import Derived.Test.YtjjjdplgdlaihaaGreatDoorO1
import Derived.Deep.AppendLies
namespace Go.Proofs.YtjjjdplgdlaihaaGreatDoor
open Go Go.RowKit

abbrev Tab (B : Nat) (w : World) : Prop := Lib.TabBelow Tryz.prog B w "internal/strconv.uint64pow10" .u64 Lib.pow10Tab

theorem one_news (w : World) (c : UInt8) : ∀ (j : Nat) (u : Value), (Lib.byteCells [c])[j]? = some u → (w.alloc (.cells #[.int .u8 (c.toNat : Int)] 5)).cell? ((⟨w.heap.size, 0, none⟩ : Addr).add j) = some u :=
  World.news_of_block (cs := #[.int .u8 (c.toNat : Int)]) (t := 5) (fr := (0, 0)) (heap_alloc_last w _)

set_option maxHeartbeats 2000000 in
set_option maxRecDepth 100000 in
theorem aint_neg (B u : Nat) (hu1 : 1 ≤ u) (hu64 : u ≤ 9223372036854775808) (v : Value) (bs : By) (w : World) (hown : OwnB B w v bs) (hB : B ≤ w.heap.size) (hl : bs.length + 21 ≤ 140737488355328) (ht : Tab B w) :
    Calls Tryz.prog 73 #[v, .int .i64 (-(u : Int)), .int .i64 10] w fun e w' => ∃ v', e = .returned v' ∧ OwnB B w' v' (bs ++ Lib.itoa (-(u : Int))) ∧ Kp B w w' := by
  obtain ⟨i0, hi, hz0, hz1, hz2⟩ := info_parts info5
  have hwr : IntKind.u64.wrap (-IntKind.u64.wrap (-(u : Int))) = (u : Int) := by rw [IntKind.wrap_u64, IntKind.wrap_u64]; omega
  have hneg : -(u : Int) < 0 := by omega
  rw [Lib.itoa_neg u hu1]
  have HO : Hid (OwnB B (w.alloc (.cells #[.int .u8 45] 5)) v bs) := hown.alloc _
  have HN : Hid (∀ (j : Nat) (x : Value), (Lib.byteCells [45])[j]? = some x → (w.alloc (.cells #[.int .u8 45] 5)).cell? ((⟨w.heap.size, 0, none⟩ : Addr).add j) = some x) := one_news w 45
  have HS : Hid (B ≤ (w.alloc (.cells #[.int .u8 45] 5)).heap.size) := by show _ ≤ _; simp; omega
  have HL : Hid (bs.length + [(45 : UInt8)].length ≤ 140737488355328) := by show _ ≤ _; simp; omega
  have HK0 : Hid (Kp B w (w.alloc (.cells #[.int .u8 45] 5))) := (Kp.refl B w).alloc hB _
  have HU : Hid (∀ v1 w1, OwnB B w1 v1 (bs ++ [45]) → Kp B w w1 → Calls Tryz.prog 98 #[v1, .int .u64 u, .int .i64 10] w1 fun e w' => ∃ v', e = .returned v' ∧ OwnB B w' v' (bs ++ [45] ++ Lib.decDigits u) ∧ Kp B w1 w') := fun v1 w1 h1 h2 =>
    auint_any B u (by omega) v1 (bs ++ [45]) w1 h1 (Nat.le_trans hB h2.low.size) (by simp; omega) (ht w1 h2.low)
  clear hown hl ht
  go_enter Tryz.func73, Tryz.ntmps73
  go_wp2_with (at_builtin; refine wpl_app _ rfl _ _ 88 rfl B i0 Tryz.underlying88 hi hz0 hz1 hz2 _ bs [45] rfl HO.out ⟨w.heap.size, 0, none⟩ 1 rfl HN.out HL.out HS.out ?_)
  intro v1 w1 hown' hgrow
  have HK : Hid (Kp B w w1) := HK0.out.grown HS.out HO.out hgrow
  have HP : Hid (OwnB B w1 v1 (bs ++ [45])) := hown'
  clear hown' hgrow
  go_wp2_with (go_at_call 98; refine (HU.out _ _ HP.out HK.out).mono ?_; rintro e w2 ⟨v2, rfl, ho2, hk2⟩; have HP2 : Hid (OwnB B w2 v2 (bs ++ [45] ++ Lib.decDigits u)) := ho2; have HK2 : Hid (Kp B w1 w2) := hk2; clear ho2 hk2)
  go_ret
  refine ⟨v2, rfl, ?_, HK.out.trans HK2.out⟩
  have e : bs ++ 45 :: Lib.decDigits u = bs ++ [45] ++ Lib.decDigits u := by simp
  rw [e]
  exact HP2.out

set_option maxHeartbeats 2000000 in
set_option maxRecDepth 100000 in
theorem aint_pos (B u : Nat) (hu64 : u ≤ 9223372036854775807) (v : Value) (bs : By) (w : World) (hown : OwnB B w v bs) (hB : B ≤ w.heap.size) (hl : bs.length + 21 ≤ 140737488355328) (ht : Tab B w) :
    Calls Tryz.prog 73 #[v, .int .i64 (u : Int), .int .i64 10] w fun e w' => ∃ v', e = .returned v' ∧ OwnB B w' v' (bs ++ Lib.itoa (u : Int)) ∧ Kp B w w' := by
  have hwr : IntKind.u64.wrap (u : Int) = (u : Int) := by rw [IntKind.wrap_u64]; omega
  rw [Lib.itoa_nonneg]
  have HU : Hid (Calls Tryz.prog 98 #[v, .int .u64 u, .int .i64 10] w fun e w' => ∃ v', e = .returned v' ∧ OwnB B w' v' (bs ++ Lib.decDigits u) ∧ Kp B w w') := auint_any B u (by omega) v bs w hown hB (by omega) ht.here
  clear hown hl ht
  go_enter Tryz.func73, Tryz.ntmps73
  go_wp2_with (go_at_call 98; refine HU.out.mono ?_; rintro e w2 ⟨v2, rfl, ho2, hk2⟩; have HP2 : Hid (OwnB B w2 v2 (bs ++ Lib.decDigits u)) := ho2; have HK2 : Hid (Kp B w w2) := hk2; clear ho2 hk2)
  go_ret
  exact ⟨v2, rfl, HP2.out, HK2.out⟩

set_option maxHeartbeats 2000000 in
set_option maxRecDepth 100000 in
/-- strconv.AppendInt, base ten. -/
theorem aint_any (B : Nat) (n : Int) (h0 : -9223372036854775808 ≤ n) (h1 : n ≤ 9223372036854775807) (v : Value) (bs : By) (w : World) (hown : OwnB B w v bs) (hB : B ≤ w.heap.size) (hl : bs.length + 21 ≤ 140737488355328) (ht : Tab B w) :
    Calls Tryz.prog 38 #[v, .int .i64 n, .int .i64 10] w fun e w' => ∃ v', e = .returned v' ∧ OwnB B w' v' (bs ++ Lib.itoa n) ∧ Kp B w w' := by
  have HU : Hid (Calls Tryz.prog 73 #[v, .int .i64 n, .int .i64 10] w fun e w' => ∃ v', e = .returned v' ∧ OwnB B w' v' (bs ++ Lib.itoa n) ∧ Kp B w w') := by
    by_cases hn : n < 0
    · obtain ⟨u, rfl⟩ : ∃ u : Nat, n = -(u : Int) := ⟨n.natAbs, by omega⟩
      exact aint_neg B u (by omega) (by omega) v bs w hown hB hl ht
    · obtain ⟨u, rfl⟩ : ∃ u : Nat, n = u := ⟨n.toNat, by omega⟩
      exact aint_pos B u (by omega) v bs w hown hB hl ht
  clear hown hl ht
  go_enter Tryz.func38, Tryz.ntmps38
  go_wp2_with (go_at_call 73; refine HU.out.mono ?_; rintro e w2 ⟨v2, rfl, ho2, hk2⟩; have HP2 : Hid (OwnB B w2 v2 (bs ++ Lib.itoa n)) := ho2; have HK2 : Hid (Kp B w w2) := hk2; clear ho2 hk2)
  go_ret
  exact ⟨v2, rfl, HP2.out, HK2.out⟩
end Go.Proofs.YtjjjdplgdlaihaaGreatDoor
