/- A row of bytes that a call owns, in a box: what Print writes; its closure walked. Print's text, part by part; how long it is. -/
import Derived.Test.YtjjjdplgdlaihaaGreatDoorMI
import Derived.RangeFuncBox
import Derived.OneCell
import Derived.Deep.RegionLaw
import Derived.Lib.ItoaLen
import Derived.Laws.IdiomStrings
namespace Go.Proofs.YtjjjdplgdlaihaaGreatDoor
open Go Go.RowKit

/-- The bytes bs lie in the call's own row, whose slice lies in the box B. -/
structure Bx (n B : Nat) (w : World) (bs : By) (v : Value) : Prop where
  nB : n ≤ B
  box : Boxed w B 88 v
  own : OwnB n w v bs

/-- What is kept behind a store into the box. -/
structure Fr (n B : Nat) (w w' : World) : Prop where
  low : Below n w w'
  oth : Lib.OthersKept 5 (some B) w w'

theorem Fr.refl (n B : Nat) (w : World) : Fr n B w w := ⟨Below.refl _ _, Lib.OthersKept.refl _ _ _⟩
theorem Fr.trans {n B : Nat} {a b c : World} (h : Fr n B a b) (k : Fr n B b c) : Fr n B a c := ⟨h.low.trans k.low, h.oth.trans k.oth⟩
theorem Fr.keep {n B : Nat} {w w' : World} (h : Fr n B w w') {k : Nat} {c : Array Value} {t : TypeId} {fz : Nat × Nat} (hk : w.heap[k]? = some (.cells c t fz)) (ht : t ≠ 5) (hB : k ≠ B) : w'.heap[k]? = some (.cells c t fz) :=
  h.oth k _ hk (fun e => hB (Option.some.inj e)) (fun c fz e => by injection e with _ e2; exact ht e2)
theorem Kp.box {n B : Nat} {w w' : World} {v : Value} (h : Kp n w w') (hb : Boxed w B 88 v) : Boxed w' B 88 v := h.oth B _ hb (by simp) (fun c fz e => by injection e with _ e2; exact absurd e2 (by decide))
theorem box_row {n B : Nat} {w : World} {v v' : Value} {bs : By} (hb : Boxed w B 88 v) (ho : OwnB n w v' bs) : v'.ownBlock ≠ some B := by
  intro e
  obtain ⟨c, fz, h⟩ := ho.kind B e
  have := (show w.heap[B]? = _ from hb).symm.trans h
  simp at this
theorem bx_store {n B : Nat} {w w' : World} {v v' : Value} {bs : By} (h : Kp n w w') (hB : n ≤ B) (hb : Boxed w B 88 v) (ho : OwnB n w' v' bs) :
    Bx n B (w'.setCell ⟨B, 0, none⟩ v') bs v' ∧ Fr n B w (w'.setCell ⟨B, 0, none⟩ v') := by
  have h1 := h.box hb
  refine ⟨⟨hB, h1.set v', ho.kept fun g hg => ?_⟩, h.low.setCell (p := ⟨B, 0, none⟩) hB v', ?_⟩
  · exact Below.heap_setCell _ _ _ _ (fun e => box_row h1 ho (by rw [hg, e]))
  intro k o hk hb2 ho2
  rw [Below.heap_setCell _ _ _ _ (fun e => hb2 (by rw [e]))]
  exact h.oth k o hk (by simp) ho2

/-- What stands ahead of part k. -/
def sepB (k : Nat) : UInt8 := if k = 0 then 32 else 44
theorem sep_any (k : Nat) (w : World) : Calls Tryz.prog 39 #[.int .i64 k] w fun e w' => e = .returned (.int .u8 ((sepB k).toNat : Int)) ∧ w' = w := by
  go_enter Tryz.func39, Tryz.ntmps39
  by_cases h : k = 0
  · subst h
    go_wp2
    go_ret
    exact ⟨rfl, rfl⟩
  · have e : sepB k = 44 := by simp [sepB, h]
    rw [e]
    go_wp2
    all_goals (go_ret)
    all_goals simp_all

/-- What the bytes of a register are. -/
def rgB (r : Int) : By := 120 :: Lib.itoa r

set_option maxRecDepth 100000 in
set_option maxHeartbeats 2000000 in
theorem reg_any (n B : Nat) (r : Int) (bs : By) (v : Value) (w : World) (hr0 : 0 ≤ r) (hr1 : r < 32) (hx : Bx n B w bs v) (hn : n ≤ w.heap.size) (hl : bs.length < 4294967281) (ht : Tab n w) :
    Calls Tryz.prog 37 #[.int .i64 r, .pointer (some ⟨B, 0, none⟩)] w fun e w' => e = .returned (.tuple #[]) ∧ ∃ v', Bx n B w' (bs ++ rgB r) v' ∧ Fr n B w w' := by
  obtain ⟨i0, hi0, hz0, hz1, hz2⟩ := info_parts info5
  have hc := hx.box.cell
  have hf := hx.box.frozen
  obtain ⟨q, c, rfl⟩ := hx.own.form
  obtain ⟨k, hk⟩ : ∃ k, k = bs.length := ⟨_, rfl⟩
  have HX : Hid (Bx n B w bs (.slice (some ⟨q, 0, none⟩) k c)) := by rw [hk]; exact hx
  rw [← hk] at hc
  have HW : Hid (OwnB n (w.alloc (.cells #[.int .u8 120] 5)) (.slice (some ⟨q, 0, none⟩) k c) bs) := HX.out.own.alloc _
  have HN : Hid (∀ (j : Nat) (x : Value), (Lib.byteCells [120])[j]? = some x → (w.alloc (.cells #[.int .u8 120] 5)).cell? ((⟨w.heap.size, 0, none⟩ : Addr).add j) = some x) := one_news w 120
  have HSZ : Hid (n ≤ (w.alloc (.cells #[.int .u8 120] 5)).heap.size) := by show _ ≤ _; simp; omega
  have HL : Hid (bs.length + [(120 : UInt8)].length ≤ 140737488355328) := by show _ ≤ _; simp; omega
  have HK0 : Hid (Kp n w (w.alloc (.cells #[.int .u8 120] 5))) := (Kp.refl n w).alloc hn _
  have HU : Hid (∀ v1 w1, OwnB n w1 v1 (bs ++ [120]) → Kp n w w1 → Calls Tryz.prog 38 #[v1, .int .i64 r, .int .i64 10] w1 fun e w' => ∃ v', e = .returned v' ∧ OwnB n w' v' (bs ++ [120] ++ Lib.itoa r) ∧ Kp n w1 w') := fun v1 w1 h1 h2 =>
    aint_any n r (by omega) (by omega) v1 (bs ++ [120]) w1 h1 (Nat.le_trans hn h2.low.size) (by simp; omega) (ht.on h2.low)
  have hsmall : k < 4294967281 := by omega
  clear hx ht hl hk
  go_enter Tryz.func37, Tryz.ntmps37
  go_wp2_with (at_builtin; refine wpl_app _ rfl _ _ 88 rfl n i0 Tryz.underlying88 hi0 hz0 hz1 hz2 _ bs [120] rfl HW.out ⟨w.heap.size, 0, none⟩ 1 rfl HN.out HL.out HSZ.out ?_)
  intro v1 w1 hown hgrow
  have HK : Hid (Kp n w w1) := HK0.out.grown HSZ.out HW.out hgrow
  have HP : Hid (OwnB n w1 v1 (bs ++ [120])) := hown
  clear hgrow hown
  go_wp2_with (go_at_call 38; fail)
  refine (HU.out _ _ HP.out HK.out).mono ?_
  rintro e w2 ⟨v2, rfl, ho, hk2⟩
  have hk3 : Kp n w w2 := HK.out.trans hk2
  have e1 : bs ++ [120] ++ Lib.itoa r = bs ++ rgB r := by simp [rgB]
  rw [e1] at ho
  have HE : Hid (_ ∧ _) := bx_store hk3 HX.out.nB HX.out.box ho
  have c2 := (hk3.box HX.out.box).cell
  have f2 := (hk3.box HX.out.box).frozen
  obtain ⟨g, cap, ev⟩ := ho.form
  obtain ⟨m, hm⟩ : ∃ m, m = (bs ++ rgB r).length := ⟨_, rfl⟩
  rw [← hm] at ev
  subst ev
  clear hk3 ho hk2 hm
  go_wp2
  go_end0
  exact ⟨rfl, _, HE.out.1, HE.out.2⟩
end Go.Proofs.YtjjjdplgdlaihaaGreatDoor

namespace Go.Proofs.YtjjjdplgdlaihaaGreatDoor
open Go Go.RowKit

theorem pr_snoc (D : Dr) (c : UInt8) : ∀ (l : By) (f : Bool), prParts D (l ++ [c]) f = prParts D l f ++ (if l = [] then (if f then 32 else 44) else 44) :: prPart D c
  | [], f => by simp [prParts]
  | x :: l, f => by
    have ih := pr_snoc D c l false
    rw [List.cons_append, prParts, ih, prParts]
    have e : (if l = [] then (if false = true then (32 : UInt8) else 44) else 44) = 44 := by split <;> rfl
    rw [e]
    simp
theorem pr_take (D : Dr) (pb : ByteArray) (k : Nat) (h : k < pb.size) : prParts D (pb.data.toList.take (k + 1)) true = prParts D (pb.data.toList.take k) true ++ sepB k :: prPart D pb[k] := by
  have hk : k < pb.data.toList.length := by simpa using h
  rw [List.take_succ_eq_append_getElem hk, pr_snoc]
  have e1 : pb.data.toList[k] = pb[k] := by rw [Array.getElem_toList]; rfl
  have e2 : (pb.data.toList.take k = []) ↔ k = 0 := by
    constructor
    · intro e
      have := congrArg List.length e
      rw [List.length_take, List.length_nil] at this
      omega
    · rintro rfl; rfl
  have e3 : (if pb.data.toList.take k = [] then (if true = true then (32 : UInt8) else 44) else 44) = sepB k := by
    unfold sepB
    by_cases hk0 : k = 0
    · rw [if_pos (e2.2 hk0), if_pos hk0]; rfl
    · rw [if_neg (fun e => hk0 (e2.1 e)), if_neg hk0]
  rw [e1, e3]

/-- A draft whose numbers fit. -/
structure Fits (D : Dr) : Prop where
  d : 0 ≤ D.d ∧ D.d < 32
  a : 0 ≤ D.a ∧ D.a < 32
  b : 0 ≤ D.b ∧ D.b < 32
  n : -9223372036854775808 ≤ D.n ∧ D.n ≤ 9223372036854775807
theorem part_len (D : Dr) (h : Fits D) (c : UInt8) : (prPart D c).length ≤ 50 := by
  have h1 := Lib.itoa_length_le D.d (by have := h.d; omega) (by have := h.d; omega)
  have h2 := Lib.itoa_length_le D.a (by have := h.a; omega) (by have := h.a; omega)
  have h3 := Lib.itoa_length_le D.b (by have := h.b; omega) (by have := h.b; omega)
  have h4 := Lib.itoa_length_le D.n h.n.1 h.n.2
  unfold prPart
  repeat' split
  all_goals simp
  all_goals omega
theorem parts_len (D : Dr) (h : Fits D) : ∀ (l : By) (f : Bool), (prParts D l f).length ≤ 51 * l.length
  | [], f => by simp [prParts]
  | c :: l, f => by
    have := parts_len D h l false
    have := part_len D h c
    simp only [prParts, List.length_cons, List.length_append]
    omega
theorem names_len : ∀ o, o < 32 → (opN o).length ≤ 10 := by decide
theorem print_len (D : Dr) (h : Fits D) (o : Nat) (ho : o < 32) (pb : ByteArray) (hp : pb.size ≤ 3) (k : Nat) : (opN o ++ prParts D (pb.data.toList.take k) true).length ≤ 200 := by
  have h1 := names_len o ho
  have h2 := parts_len D h (pb.data.toList.take k) true
  have h3 : (pb.data.toList.take k).length ≤ 3 := by
    rw [List.length_take]
    have : pb.data.toList.length = pb.size := by simp
    omega
  rw [List.length_append]
  omega

/-- The bytes of a string, as a conversion lays them. -/
theorem conv_own (n0 : Nat) (W : World) (nb : ByteArray) (hn : n0 ≤ W.heap.size) (hs : nb.size ≤ maxLen) :
    OwnB n0 (W.alloc (.cells (bytesRow nb (grownCap W nb.size 0 5)) 5 ((bytesRow nb (grownCap W nb.size 0 5)).size, (bytesRow nb (grownCap W nb.size 0 5)).size + 1))) (.slice (some ⟨W.heap.size, 0, none⟩) nb.size (grownCap W nb.size 0 5)) nb.data.toList := by
  have hge := grownCap_ge W nb.size 0 5
  have hcm := grownCap_le_maxLen W nb.size 0 5 hs
  have e : nb.data.toList.length = nb.size := by simp
  have es : nb.data.size = nb.size := rfl
  refine ⟨W.heap.size, _, _, _, by rw [e], hn, heap_alloc_last W _, fun k hk h => by have := h.1; simp only at this; omega, by rw [e]; exact hge, hcm, ?_, ?_⟩
  · simp only [bytesRow, Array.size_append, Array.size_map, Array.size_replicate, es]
    omega
  · have e2 : nb.data.toList.length = (Lib.byteCells nb.data.toList).length := by rw [Lib.byteCells_length]
    simp only [bytesRow, Array.toList_append, Array.toList_map]
    rw [e2]
    exact List.take_left
theorem print_start0 (n0 : Nat) (w w2 : World) (A R : Obj) (v : Value) (bs : By) (X : Array Value) (hb : Below n0 w w2) (hX : w2.heap[n0]? = some (.cells X 39)) (ho : OwnB n0 ((w2.alloc A).alloc R) v bs) :
    Below n0 w (((w2.alloc A).alloc R).alloc (.cells #[v] 88)).drew ∧ (((w2.alloc A).alloc R).alloc (.cells #[v] 88)).drew.heap[n0]? = some (.cells X 39) ∧ (((w2.alloc A).alloc R).alloc (.cells #[v] 88)).drew.heap[w2.heap.size]? = some A ∧
      Bx n0 (w2.heap.size + 1 + 1) (((w2.alloc A).alloc R).alloc (.cells #[v] 88)).drew bs v := by
  have hlt : n0 < w2.heap.size := (Array.getElem?_eq_some_iff.1 hX).1
  have s1 : (w2.alloc A).heap.size = w2.heap.size + 1 := by simp
  have b1 : Below w2.heap.size w2 (w2.alloc A) := (Below.refl _ _).alloc (Nat.le_refl _) _
  have b2 : Below (w2.heap.size + 1) (w2.alloc A) ((w2.alloc A).alloc R) := (Below.refl _ _).alloc (by rw [s1]; exact Nat.le_refl _) _
  have s2 : ((w2.alloc A).alloc R).heap.size = w2.heap.size + 1 + 1 := by simp
  have b3 : Below (w2.heap.size + 1 + 1) ((w2.alloc A).alloc R) (((w2.alloc A).alloc R).alloc (.cells #[v] 88)).drew := ((Below.refl _ _).alloc (by rw [s2]; exact Nat.le_refl _) _).drew
  have b23 := b2.trans (b3.mono (show w2.heap.size + 1 ≤ w2.heap.size + 1 + 1 by omega))
  have b13 := b1.trans (b23.mono (show w2.heap.size ≤ w2.heap.size + 1 by omega))
  refine ⟨hb.trans (b13.mono (by omega)), (b13.block n0 hlt).trans hX, (b23.block w2.heap.size (by omega)).trans (heap_alloc_last w2 _), ⟨by omega, ?_, ?_⟩⟩
  · have := Boxed.new ((w2.alloc A).alloc R) 88 v
    rw [s2] at this
    exact this
  · exact ho.below (by rw [s2]; exact b3)
theorem print_start (n0 : Nat) (w w2 : World) (nb pb : ByteArray) (X : Array Value) (hb : Below n0 w w2) (hX : w2.heap[n0]? = some (.cells X 39)) (hs : nb.size ≤ maxLen) :
    let c := grownCap (w2.alloc (.cells #[.string nb, .string pb] 86)) nb.size 0 5
    let W0 := (((w2.alloc (.cells #[.string nb, .string pb] 86)).alloc (.cells (bytesRow nb c) 5 ((bytesRow nb c).size, (bytesRow nb c).size + 1))).alloc (.cells #[.slice (some ⟨w2.heap.size + 1, 0, none⟩) nb.size c] 88)).drew
    Below n0 w W0 ∧ W0.heap[n0]? = some (.cells X 39) ∧ W0.heap[w2.heap.size]? = some (.cells #[.string nb, .string pb] 86) ∧ Bx n0 (w2.heap.size + 1 + 1) W0 nb.data.toList (.slice (some ⟨w2.heap.size + 1, 0, none⟩) nb.size c) := by
  intro c W0
  have hlt : n0 < w2.heap.size := (Array.getElem?_eq_some_iff.1 hX).1
  have s1 : (w2.alloc (.cells #[.string nb, .string pb] 86)).heap.size = w2.heap.size + 1 := by simp
  have ho := conv_own n0 (w2.alloc (.cells #[.string nb, .string pb] 86)) nb (by rw [s1]; omega) hs
  rw [s1] at ho
  exact print_start0 n0 w w2 _ _ _ _ X hb hX ho
end Go.Proofs.YtjjjdplgdlaihaaGreatDoor
