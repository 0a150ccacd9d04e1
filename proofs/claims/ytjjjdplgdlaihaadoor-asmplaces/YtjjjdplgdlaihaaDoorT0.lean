/- The text that AsmPlaces makes, line by line. -/
import Derived.Test.YtjjjdplgdlaihaaDoorV0
import Derived.Test.YtjjjdplgdlaihaaDoorP3
import Derived.Test.YtjjjdplgdlaihaaDoorP4
import Derived.Test.YtjjjdplgdlaihaaDoorW0
namespace Go.Proofs.YtjjjdplgdlaihaaDoor
open Go Go.RowKit

/-- The instructions with the jump among them. -/
def seqL (l : List Dr) (a : Nat) : List Dr := l.take a ++ J :: l.drop a
theorem seq_len (l : List Dr) (a : Nat) (h : a ≤ l.length) : (seqL l a).length = l.length + 1 := by simp [seqL]; omega
theorem seq_lt (l : List Dr) (a k : Nat) (h : a ≤ l.length) (hk : k < a) : (seqL l a)[k]? = l[k]? := by
  unfold seqL
  rw [List.getElem?_append_left (by simp; omega), List.getElem?_take, if_pos hk]
theorem seq_eq (l : List Dr) (a : Nat) (h : a ≤ l.length) : (seqL l a)[a]? = some J := by
  unfold seqL
  rw [List.getElem?_append_right (by simp; omega)]
  simp [Nat.min_eq_left h]
theorem seq_gt (l : List Dr) (a k : Nat) (h : a ≤ l.length) (hk : a < k) : (seqL l a)[k]? = l[k - 1]? := by
  unfold seqL
  rw [List.getElem?_append_right (by simp; omega)]
  have e : k - (l.take a).length = (k - 1 - a) + 1 := by simp [Nat.min_eq_left h]; omega
  rw [e, List.getElem?_cons_succ, List.getElem?_drop]
  congr 1
  omega

/-- What is written behind so many rounds. -/
def pT (m : List Dr) (to k : Nat) : By := if to < k then placeT (m.take k) to else linesT (m.take k)
def markT (to k : Nat) : By := if k = to then [104, 101, 114, 101, 58, 10] else []
theorem pT_zero (m : List Dr) (to : Nat) : pT m to 0 = [] := by simp [pT, linesT]
theorem linesT_one (d : Dr) : linesT [d] = lineV d ++ [10] := by simp [linesT]
theorem pT_step (m : List Dr) (to k : Nat) (d : Dr) (hd : m[k]? = some d) : pT m to (k + 1) = pT m to k ++ (markT to k ++ (lineV d ++ [10])) := by
  obtain ⟨hk, rfl⟩ := List.getElem?_eq_some_iff.1 hd
  unfold pT markT
  rw [List.take_succ_eq_append_getElem hk]
  by_cases h1 : to < k
  · rw [if_pos (by omega), if_pos h1, if_neg (by omega)]
    unfold placeT
    rw [List.take_append_of_le_length (by simp; omega), List.drop_append_of_le_length (by simp; omega), linesT_append, linesT_one]
    simp
  · by_cases h2 : k = to
    · subst h2
      rw [if_pos (by omega), if_neg h1, if_pos rfl]
      unfold placeT
      have hl : (m.take k).length = k := by simp; omega
      rw [List.take_append_of_le_length (by omega), List.take_of_length_le (by omega), List.drop_append_of_le_length (by omega), List.drop_of_length_le (by omega), List.nil_append, linesT_one]
      rfl
    · rw [if_neg (by omega), if_neg h1, if_neg h2, linesT_append, linesT_one]
      rfl
theorem pT_last (m : List Dr) (to : Nat) (ht : to ≤ m.length) : pT m to (m.length + 1) = pT m to m.length ++ markT to m.length := by
  unfold pT markT
  rw [List.take_of_length_le (by omega), List.take_of_length_le (by omega), if_pos (by omega)]
  by_cases h1 : to < m.length
  · rw [if_pos h1, if_neg (by omega), List.append_nil]
  · have : m.length = to := by omega
    rw [if_neg h1, if_pos this]
    unfold placeT
    rw [List.take_of_length_le (by omega), List.drop_of_length_le (by omega)]
    rfl
theorem pT_end (m : List Dr) (to : Nat) (ht : to ≤ m.length) : pT m to (m.length + 1) = placeT m to := by
  unfold pT
  rw [if_pos (by omega), List.take_of_length_le (by omega)]

theorem line_J : lineV J = jl := if_pos (by decide)
theorem line_d (d : Dr) (h : d.pl = []) : lineV d = prV d := if_neg (fun e => e h)

/-- A line is no longer than so. -/
theorem pr_len (d : Dr) (h : Wfd d) : (prV d).length ≤ 200 := by
  have h1 := h.ok
  have hf : Fits d := ⟨h1.d0, h1.a0, h1.b0, h1.n0⟩
  have := print_len d hf d.o.toNat (by have := h.o1; have := h.o2; omega) ⟨(opP d.o.toNat).toArray⟩ (by simpa [ByteArray.size] using parts_three d.o.toNat (by have := h.o1; have := h.o2; omega)) 3
  have e : ((⟨(opP d.o.toNat).toArray⟩ : ByteArray).data.toList.take 3) = opP d.o.toNat := by
    rw [List.take_of_length_le]
    simpa using parts_three d.o.toNat (by have := h.o1; have := h.o2; omega)
  rw [e] at this
  exact this

/-- A jump so far may be. -/
theorem jump_all : ∀ i : Fin 200, Rt 30 1 0 0 (4 * ((i.val : Int) - 100)) = true := by decide +kernel
theorem jump_rt (to j : Nat) (h1 : to ≤ 61) (h2 : j ≤ 61) : rtD (jTo (4 * ((to : Int) - j))) = true := by
  have := jump_all ⟨to + 100 - j, by omega⟩
  have e : (4 * ((((to + 100 - j : Nat)) : Int) - 100)) = 4 * ((to : Int) - j) := by omega
  simp only [e] at this
  exact this
end Go.Proofs.YtjjjdplgdlaihaaDoor
