/- Package mid, walked: fresh places. -/
import Derived.Test.YtjmbjpimabnohaaDoorNG
namespace Go.Proofs.YtjmbjpimabnohaaDoor.Mid
set_option linter.unusedVariables false
set_option linter.unusedSimpArgs false
open Go Go.RowKit

theorem info179 : (Tryd.prog.info? 102).map (fun i => (i.zero, i.size, i.bytes)) = some (some (.agg #[.int .i64 0, .slice none 0 0]), 2, 32) := by kernel_rfl
/-- Places into which nobody wrote yet. -/
def zs : Nat → List Value
  | 0 => []
  | n + 1 => .int .i64 0 :: .slice none 0 0 :: zs n
theorem zs_len : ∀ n, (zs n).length = n * 2
  | 0 => rfl
  | n + 1 => by simp only [zs, List.length_cons, zs_len n]; omega
theorem zs_get : ∀ (n j : Nat), j < n * 2 → (zs n)[j]? = some (if j % 2 = 0 then .int .i64 0 else .slice none 0 0)
  | 0, j, h => by omega
  | n + 1, 0, h => rfl
  | n + 1, 1, h => rfl
  | n + 1, j + 2, h => by
    show (zs n)[j]? = _
    rw [zs_get n j (by omega), show (j + 2) % 2 = j % 2 by omega]
theorem made_vals (n : Nat) : madeCells (Value.agg #[.int .i64 0, .slice none 0 0]).cells (n * 2) = (zs n).toArray := by
  apply Array.ext'
  apply List.ext_getElem?
  intro j
  by_cases hj : j < n * 2
  · rw [show (zs n).toArray.toList = zs n from rfl, zs_get n j hj]
    have h2 : j % 2 = 0 ∨ j % 2 = 1 := by omega
    show (madeCells #[Value.int .i64 0, .slice none 0 0] (n * 2)).toList[j]? = _
    rcases h2 with h2 | h2 <;> simp [madeCells, hj, h2]
  · rw [show (zs n).toArray.toList = zs n from rfl, List.getElem?_eq_none (l := zs n) (by rw [zs_len]; omega)]
    simp [madeCells, hj]
theorem mk_vals (n : Nat) (hn : n ≤ 1000000) (w : World) : (Instr.makeSlice 82 (.int .i64 (n : Int)) (.int .i64 (n : Int))).run Tryd.prog w = .ok (.slice (some ⟨w.heap.size, 0, none⟩) n n) (w.alloc (.cells (zs n).toArray 102)) := by
  obtain ⟨i, hi, hz0, hz1, hz2⟩ := info_parts info179
  have := run_makeSlice w 82 102 i _ Tryd.underlying82 hi hz0 .i64 .i64 (n : Int) (n : Int) (by omega) (by omega) (by rw [hz1]; simp; omega) (by rw [hz2]; omega) (by omega)
  rw [hz1] at this
  simp only [Int.toNat_natCast, made_vals] at this
  exact this
/-- Fresh places. -/
def FrP (k : Nat) (w : World) (e : Ending) (w' : World) : Prop := ∃ A, e = .returned (.slice (some ⟨w.heap.size + 1, 0, none⟩) k k) ∧ w' = (w.alloc A).alloc (.cells (zs k).toArray 102)
set_option maxRecDepth 100000 in
set_option maxHeartbeats 1000000 in
theorem fresh_any {fb fo : Nat} {F : Mf} {mv : Value} (w : World) {q : Option Addr} {c : Nat} (h : w.cell? ⟨fb, fo + 2, none⟩ = some (.slice q F.types.length c)) (hk : F.types.length ≤ 1000000) (mb : Nat) (hmv : mv = .map (some mb)) :
    Calls Tryd.prog 31 #[.agg #[.pointer (some ⟨fb, fo, none⟩), mv]] w (FrP F.types.length w) := by
  subst hmv
  obtain ⟨k, hk2⟩ : ∃ k, F.types.length = k := ⟨_, rfl⟩
  rw [hk2] at h hk ⊢
  have h1 := cell_old (A := .cells #[.pointer (some ⟨fb, fo, none⟩), .map (some mb)] 80) h
  have hm := mk_vals k hk
  clear hk2 h
  go_enter Tryd.func31, Tryd.ntmps31
  go_wp2
  go_ret
  exact ⟨_, rfl, rfl⟩
end Go.Proofs.YtjmbjpimabnohaaDoor.Mid
