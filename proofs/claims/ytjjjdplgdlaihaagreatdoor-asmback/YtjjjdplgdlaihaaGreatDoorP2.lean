/- Print's text, part by part; how long it is. -/
import Derived.Test.YtjjjdplgdlaihaaGreatDoorP0
import Derived.Lib.ItoaLen
import Derived.Laws.IdiomStrings
namespace Go.Proofs.YtjjjdplgdlaihaaGreatDoor
open Go Go.RowKit

theorem pr_snoc (D : Dr) (c : UInt8) : ∀ (l : By) (f : Bool), prParts D (l ++ [c]) f = prParts D l f ++ (if l = [] then (if f then 32 else 44) else 44) :: prPart D c
  | [], f => by simp [prParts]
  | x :: l, f => by
    have ih := pr_snoc D c l false
    rw [List.cons_append, prParts, ih, prParts]
    have e : (if l = [] then (if false = true then (32 : UInt8) else 44) else 44) = 44 := by split <;> rfl
    rw [e]
    simp
theorem pr_take (D : Dr) (pb : ByteArray) (k : Nat) (h : k < pb.size) : prParts D (pb.data.toList.take (k + 1)) true = prParts D (pb.data.toList.take k) true ++ sepB k :: prPart D pb[k] := by
  have hk : k < pb.data.toList.length := by simpa using h
  rw [List.take_succ_eq_append_getElem hk, pr_snoc]
  have e1 : pb.data.toList[k] = pb[k] := by rw [Array.getElem_toList]; rfl
  have e2 : (pb.data.toList.take k = []) ↔ k = 0 := by
    constructor
    · intro e
      have := congrArg List.length e
      rw [List.length_take, List.length_nil] at this
      omega
    · rintro rfl; rfl
  have e3 : (if pb.data.toList.take k = [] then (if true = true then (32 : UInt8) else 44) else 44) = sepB k := by
    unfold sepB
    by_cases hk0 : k = 0
    · rw [if_pos (e2.2 hk0), if_pos hk0]; rfl
    · rw [if_neg (fun e => hk0 (e2.1 e)), if_neg hk0]
  rw [e1, e3]

/-- A draft whose numbers fit. -/
structure Fits (D : Dr) : Prop where
  d : 0 ≤ D.d ∧ D.d < 32
  a : 0 ≤ D.a ∧ D.a < 32
  b : 0 ≤ D.b ∧ D.b < 32
  n : -9223372036854775808 ≤ D.n ∧ D.n ≤ 9223372036854775807
theorem part_len (D : Dr) (h : Fits D) (c : UInt8) : (prPart D c).length ≤ 50 := by
  have h1 := Lib.itoa_length_le D.d (by have := h.d; omega) (by have := h.d; omega)
  have h2 := Lib.itoa_length_le D.a (by have := h.a; omega) (by have := h.a; omega)
  have h3 := Lib.itoa_length_le D.b (by have := h.b; omega) (by have := h.b; omega)
  have h4 := Lib.itoa_length_le D.n h.n.1 h.n.2
  unfold prPart
  repeat' split
  all_goals simp
  all_goals omega
theorem parts_len (D : Dr) (h : Fits D) : ∀ (l : By) (f : Bool), (prParts D l f).length ≤ 51 * l.length
  | [], f => by simp [prParts]
  | c :: l, f => by
    have := parts_len D h l false
    have := part_len D h c
    simp only [prParts, List.length_cons, List.length_append]
    omega
theorem names_len : ∀ o, o < 32 → (opN o).length ≤ 10 := by decide
theorem print_len (D : Dr) (h : Fits D) (o : Nat) (ho : o < 32) (pb : ByteArray) (hp : pb.size ≤ 3) (k : Nat) : (opN o ++ prParts D (pb.data.toList.take k) true).length ≤ 200 := by
  have h1 := names_len o ho
  have h2 := parts_len D h (pb.data.toList.take k) true
  have h3 : (pb.data.toList.take k).length ≤ 3 := by
    rw [List.length_take]
    have : pb.data.toList.length = pb.size := by simp
    omega
  rw [List.length_append]
  omega

/-- The bytes of a string, as a conversion lays them. -/
theorem conv_own (n0 : Nat) (W : World) (nb : ByteArray) (hn : n0 ≤ W.heap.size) (hs : nb.size ≤ maxLen) :
    OwnB n0 (W.alloc (.cells (bytesRow nb (grownCap W nb.size 0 5)) 5 ((bytesRow nb (grownCap W nb.size 0 5)).size, (bytesRow nb (grownCap W nb.size 0 5)).size + 1))) (.slice (some ⟨W.heap.size, 0, none⟩) nb.size (grownCap W nb.size 0 5)) nb.data.toList := by
  have hge := grownCap_ge W nb.size 0 5
  have hcm := grownCap_le_maxLen W nb.size 0 5 hs
  have e : nb.data.toList.length = nb.size := by simp
  have es : nb.data.size = nb.size := rfl
  refine ⟨W.heap.size, _, _, _, by rw [e], hn, heap_alloc_last W _, fun k hk h => by have := h.1; simp only at this; omega, by rw [e]; exact hge, hcm, ?_, ?_⟩
  · simp only [bytesRow, Array.size_append, Array.size_map, Array.size_replicate, es]
    omega
  · have e2 : nb.data.toList.length = (Lib.byteCells nb.data.toList).length := by rw [Lib.byteCells_length]
    simp only [bytesRow, Array.toList_append, Array.toList_map]
    rw [e2]
    exact List.take_left
theorem print_start0 (n0 : Nat) (w w2 : World) (A R : Obj) (v : Value) (bs : By) (X : Array Value) (hb : Below n0 w w2) (hX : w2.heap[n0]? = some (.cells X 39)) (ho : OwnB n0 ((w2.alloc A).alloc R) v bs) :
    Below n0 w (((w2.alloc A).alloc R).alloc (.cells #[v] 88)).drew ∧ (((w2.alloc A).alloc R).alloc (.cells #[v] 88)).drew.heap[n0]? = some (.cells X 39) ∧ (((w2.alloc A).alloc R).alloc (.cells #[v] 88)).drew.heap[w2.heap.size]? = some A ∧
      Bx n0 (w2.heap.size + 1 + 1) (((w2.alloc A).alloc R).alloc (.cells #[v] 88)).drew bs v := by
  have hlt : n0 < w2.heap.size := (Array.getElem?_eq_some_iff.1 hX).1
  have s1 : (w2.alloc A).heap.size = w2.heap.size + 1 := by simp
  have b1 : Below w2.heap.size w2 (w2.alloc A) := (Below.refl _ _).alloc (Nat.le_refl _) _
  have b2 : Below (w2.heap.size + 1) (w2.alloc A) ((w2.alloc A).alloc R) := (Below.refl _ _).alloc (by rw [s1]; exact Nat.le_refl _) _
  have s2 : ((w2.alloc A).alloc R).heap.size = w2.heap.size + 1 + 1 := by simp
  have b3 : Below (w2.heap.size + 1 + 1) ((w2.alloc A).alloc R) (((w2.alloc A).alloc R).alloc (.cells #[v] 88)).drew := ((Below.refl _ _).alloc (by rw [s2]; exact Nat.le_refl _) _).drew
  have b23 := b2.trans (b3.mono (show w2.heap.size + 1 ≤ w2.heap.size + 1 + 1 by omega))
  have b13 := b1.trans (b23.mono (show w2.heap.size ≤ w2.heap.size + 1 by omega))
  refine ⟨hb.trans (b13.mono (by omega)), (b13.block n0 hlt).trans hX, (b23.block w2.heap.size (by omega)).trans (heap_alloc_last w2 _), ⟨by omega, ?_, ?_⟩⟩
  · have := Boxed.new ((w2.alloc A).alloc R) 88 v
    rw [s2] at this
    exact this
  · exact ho.below (by rw [s2]; exact b3)
theorem print_start (n0 : Nat) (w w2 : World) (nb pb : ByteArray) (X : Array Value) (hb : Below n0 w w2) (hX : w2.heap[n0]? = some (.cells X 39)) (hs : nb.size ≤ maxLen) :
    let c := grownCap (w2.alloc (.cells #[.string nb, .string pb] 86)) nb.size 0 5
    let W0 := (((w2.alloc (.cells #[.string nb, .string pb] 86)).alloc (.cells (bytesRow nb c) 5 ((bytesRow nb c).size, (bytesRow nb c).size + 1))).alloc (.cells #[.slice (some ⟨w2.heap.size + 1, 0, none⟩) nb.size c] 88)).drew
    Below n0 w W0 ∧ W0.heap[n0]? = some (.cells X 39) ∧ W0.heap[w2.heap.size]? = some (.cells #[.string nb, .string pb] 86) ∧ Bx n0 (w2.heap.size + 1 + 1) W0 nb.data.toList (.slice (some ⟨w2.heap.size + 1, 0, none⟩) nb.size c) := by
  intro c W0
  have hlt : n0 < w2.heap.size := (Array.getElem?_eq_some_iff.1 hX).1
  have s1 : (w2.alloc (.cells #[.string nb, .string pb] 86)).heap.size = w2.heap.size + 1 := by simp
  have ho := conv_own n0 (w2.alloc (.cells #[.string nb, .string pb] 86)) nb (by rw [s1]; omega) hs
  rw [s1] at ho
  exact print_start0 n0 w w2 _ _ _ _ X hb hX ho
end Go.Proofs.YtjjjdplgdlaihaaGreatDoor
