/- A row of bytes that a call owns, in a box: what Print writes; its closure walked. -/
import Derived.Test.YtjjjdplgdlaihaaGreatDoorO2
import Derived.RangeFuncBox
import Derived.OneCell
import Derived.Deep.RegionLaw
namespace Go.Proofs.YtjjjdplgdlaihaaGreatDoor
open Go Go.RowKit

/-- The bytes bs lie in the call's own row, whose slice lies in the box B. -/
structure Bx (n B : Nat) (w : World) (bs : By) (v : Value) : Prop where
  nB : n ≤ B
  box : Boxed w B 88 v
  own : OwnB n w v bs

/-- What is kept behind a store into the box. -/
structure Fr (n B : Nat) (w w' : World) : Prop where
  low : Below n w w'
  oth : Lib.OthersKept 5 (some B) w w'

theorem Fr.refl (n B : Nat) (w : World) : Fr n B w w := ⟨Below.refl _ _, Lib.OthersKept.refl _ _ _⟩
theorem Fr.trans {n B : Nat} {a b c : World} (h : Fr n B a b) (k : Fr n B b c) : Fr n B a c := ⟨h.low.trans k.low, h.oth.trans k.oth⟩
theorem Fr.keep {n B : Nat} {w w' : World} (h : Fr n B w w') {k : Nat} {c : Array Value} {t : TypeId} {fz : Nat × Nat} (hk : w.heap[k]? = some (.cells c t fz)) (ht : t ≠ 5) (hB : k ≠ B) : w'.heap[k]? = some (.cells c t fz) :=
  h.oth k _ hk (fun e => hB (Option.some.inj e)) (fun c fz e => by injection e with _ e2; exact ht e2)
theorem Kp.box {n B : Nat} {w w' : World} {v : Value} (h : Kp n w w') (hb : Boxed w B 88 v) : Boxed w' B 88 v := h.oth B _ hb (by simp) (fun c fz e => by injection e with _ e2; exact absurd e2 (by decide))
theorem box_row {n B : Nat} {w : World} {v v' : Value} {bs : By} (hb : Boxed w B 88 v) (ho : OwnB n w v' bs) : v'.ownBlock ≠ some B := by
  intro e
  obtain ⟨c, fz, h⟩ := ho.kind B e
  have := (show w.heap[B]? = _ from hb).symm.trans h
  simp at this
theorem bx_store {n B : Nat} {w w' : World} {v v' : Value} {bs : By} (h : Kp n w w') (hB : n ≤ B) (hb : Boxed w B 88 v) (ho : OwnB n w' v' bs) :
    Bx n B (w'.setCell ⟨B, 0, none⟩ v') bs v' ∧ Fr n B w (w'.setCell ⟨B, 0, none⟩ v') := by
  have h1 := h.box hb
  refine ⟨⟨hB, h1.set v', ho.kept fun g hg => ?_⟩, h.low.setCell (p := ⟨B, 0, none⟩) hB v', ?_⟩
  · exact Below.heap_setCell _ _ _ _ (fun e => box_row h1 ho (by rw [hg, e]))
  intro k o hk hb2 ho2
  rw [Below.heap_setCell _ _ _ _ (fun e => hb2 (by rw [e]))]
  exact h.oth k o hk (by simp) ho2

/-- What stands ahead of part k. -/
def sepB (k : Nat) : UInt8 := if k = 0 then 32 else 44
theorem sep_any (k : Nat) (w : World) : Calls Tryz.prog 39 #[.int .i64 k] w fun e w' => e = .returned (.int .u8 ((sepB k).toNat : Int)) ∧ w' = w := by
  go_enter Tryz.func39, Tryz.ntmps39
  by_cases h : k = 0
  · subst h
    go_wp2
    go_ret
    exact ⟨rfl, rfl⟩
  · have e : sepB k = 44 := by simp [sepB, h]
    rw [e]
    go_wp2
    all_goals (go_ret)
    all_goals simp_all

/-- What the bytes of a register are. -/
def rgB (r : Int) : By := 120 :: Lib.itoa r

set_option maxRecDepth 100000 in
set_option maxHeartbeats 2000000 in
theorem reg_any (n B : Nat) (r : Int) (bs : By) (v : Value) (w : World) (hr0 : 0 ≤ r) (hr1 : r < 32) (hx : Bx n B w bs v) (hn : n ≤ w.heap.size) (hl : bs.length < 4294967281) (ht : Tab n w) :
    Calls Tryz.prog 37 #[.int .i64 r, .pointer (some ⟨B, 0, none⟩)] w fun e w' => e = .returned (.tuple #[]) ∧ ∃ v', Bx n B w' (bs ++ rgB r) v' ∧ Fr n B w w' := by
  obtain ⟨i0, hi0, hz0, hz1, hz2⟩ := info_parts info5
  have hc := hx.box.cell
  have hf := hx.box.frozen
  obtain ⟨q, c, rfl⟩ := hx.own.form
  obtain ⟨k, hk⟩ : ∃ k, k = bs.length := ⟨_, rfl⟩
  have HX : Hid (Bx n B w bs (.slice (some ⟨q, 0, none⟩) k c)) := by rw [hk]; exact hx
  rw [← hk] at hc
  have HW : Hid (OwnB n (w.alloc (.cells #[.int .u8 120] 5)) (.slice (some ⟨q, 0, none⟩) k c) bs) := HX.out.own.alloc _
  have HN : Hid (∀ (j : Nat) (x : Value), (Lib.byteCells [120])[j]? = some x → (w.alloc (.cells #[.int .u8 120] 5)).cell? ((⟨w.heap.size, 0, none⟩ : Addr).add j) = some x) := one_news w 120
  have HSZ : Hid (n ≤ (w.alloc (.cells #[.int .u8 120] 5)).heap.size) := by show _ ≤ _; simp; omega
  have HL : Hid (bs.length + [(120 : UInt8)].length ≤ 140737488355328) := by show _ ≤ _; simp; omega
  have HK0 : Hid (Kp n w (w.alloc (.cells #[.int .u8 120] 5))) := (Kp.refl n w).alloc hn _
  have HU : Hid (∀ v1 w1, OwnB n w1 v1 (bs ++ [120]) → Kp n w w1 → Calls Tryz.prog 38 #[v1, .int .i64 r, .int .i64 10] w1 fun e w' => ∃ v', e = .returned v' ∧ OwnB n w' v' (bs ++ [120] ++ Lib.itoa r) ∧ Kp n w1 w') := fun v1 w1 h1 h2 =>
    aint_any n r (by omega) (by omega) v1 (bs ++ [120]) w1 h1 (Nat.le_trans hn h2.low.size) (by simp; omega) (ht.on h2.low)
  have hsmall : k < 4294967281 := by omega
  clear hx ht hl hk
  go_enter Tryz.func37, Tryz.ntmps37
  go_wp2_with (at_builtin; refine wpl_app _ rfl _ _ 88 rfl n i0 Tryz.underlying88 hi0 hz0 hz1 hz2 _ bs [120] rfl HW.out ⟨w.heap.size, 0, none⟩ 1 rfl HN.out HL.out HSZ.out ?_)
  intro v1 w1 hown hgrow
  have HK : Hid (Kp n w w1) := HK0.out.grown HSZ.out HW.out hgrow
  have HP : Hid (OwnB n w1 v1 (bs ++ [120])) := hown
  clear hgrow hown
  go_wp2_with (go_at_call 38; fail)
  refine (HU.out _ _ HP.out HK.out).mono ?_
  rintro e w2 ⟨v2, rfl, ho, hk2⟩
  have hk3 : Kp n w w2 := HK.out.trans hk2
  have e1 : bs ++ [120] ++ Lib.itoa r = bs ++ rgB r := by simp [rgB]
  rw [e1] at ho
  have HE : Hid (_ ∧ _) := bx_store hk3 HX.out.nB HX.out.box ho
  have c2 := (hk3.box HX.out.box).cell
  have f2 := (hk3.box HX.out.box).frozen
  obtain ⟨g, cap, ev⟩ := ho.form
  obtain ⟨m, hm⟩ : ∃ m, m = (bs ++ rgB r).length := ⟨_, rfl⟩
  rw [← hm] at ev
  subst ev
  clear hk3 ho hk2 hm
  go_wp2
  go_end0
  exact ⟨rfl, _, HE.out.1, HE.out.2⟩
end Go.Proofs.YtjjjdplgdlaihaaGreatDoor
