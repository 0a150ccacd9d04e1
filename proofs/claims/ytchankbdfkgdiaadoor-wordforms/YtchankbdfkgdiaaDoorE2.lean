/- The document's own table of forms, walked. -/
import Derived.Test.YtchankbdfkgdiaaDoorE1
namespace Go.Proofs.YtchankbdfkgdiaaDoor
open Go Go.RowKit

abbrev formV (k l m h : Int) (s : ByteArray) : Value := .agg #[.int .u8 k, .int .u32 l, .int .u32 m, .int .u32 h, .string s]
theorem res45 (fn : Func) (p u : Tmp) (hr : fn.results = #[.cell p 45, .tmp u]) (tmps : Array Value) (w : World) (g : Nat) (a b c d e : Value) (hp : tmps.getD p undef = .pointer (some ⟨g, 0, none⟩)) (hg : w.heap[g]? = some (.cells #[a, b, c, d, e] 45)) :
    (results fn tmps).run Tryd.prog w = .ok (.tuple #[.agg #[a, b, c, d, e], tmps.getD u undef]) w := by
  rw [results_cell_tmp hr, hp]
  have h1 : (loadVar 45 ⟨g, 0, none⟩).run Tryd.prog w = .ok (.agg #[a, b, c, d, e]) w := run_loadVar_row w g 45 45 _ (0, 0) _ hg Tryd.underlying45 rfl (by kernel_rfl)
  simp only [asAddr, Sem.run_pure, Result.andThen_ok, h1]
set_option maxHeartbeats 400000 in
theorem clo28 (m h : Int) (s : ByteArray) (w : World) : Calls Tryd.prog 28 #[.int .u32 m, .int .u32 h, .string s] w fun e w' => e = .returned (.tuple #[formV 82 51 m h s, .bool true]) ∧ Below w.heap.size w w' := by
  go_enter Tryd.func28, Tryd.ntmps28
  go_wp2
  exact bodyPost_ret (res45 _ _ _ Tryd.results28 _ _ w.heap.size _ _ _ _ _ rfl (heap_alloc_last w _)) rfl ⟨rfl, (Below.refl _ _).alloc (Nat.le_refl _) _⟩
set_option maxHeartbeats 400000 in
theorem clo29 (l m : Int) (s : ByteArray) (w : World) : Calls Tryd.prog 29 #[.int .u32 l, .int .u32 m, .string s] w fun e w' => e = .returned (.tuple #[formV 73 l m 0 s, .bool true]) ∧ Below w.heap.size w w' := by
  go_enter Tryd.func29, Tryd.ntmps29
  go_wp2
  exact bodyPost_ret (res45 _ _ _ Tryd.results29 _ _ w.heap.size _ _ _ _ _ rfl (heap_alloc_last w _)) rfl ⟨rfl, (Below.refl _ _).alloc (Nat.le_refl _) _⟩
set_option maxHeartbeats 400000 in
theorem clo30 (m h : Int) (s : ByteArray) (w : World) : Calls Tryd.prog 30 #[.int .u32 m, .int .u32 h, .string s] w fun e w' => e = .returned (.tuple #[formV 72 19 m h s, .bool true]) ∧ Below w.heap.size w w' := by
  go_enter Tryd.func30, Tryd.ntmps30
  go_wp2
  exact bodyPost_ret (res45 _ _ _ Tryd.results30 _ _ w.heap.size _ _ _ _ _ rfl (heap_alloc_last w _)) rfl ⟨rfl, (Below.refl _ _).alloc (Nat.le_refl _) _⟩
set_option maxHeartbeats 400000 in
theorem clo31 (m : Int) (s : ByteArray) (w : World) : Calls Tryd.prog 31 #[.int .u32 m, .string s] w fun e w' => e = .returned (.tuple #[formV 66 99 m 0 s, .bool true]) ∧ Below w.heap.size w w' := by
  go_enter Tryd.func31, Tryd.ntmps31
  go_wp2
  exact bodyPost_ret (res45 _ _ _ Tryd.results31 _ _ w.heap.size _ _ _ _ _ rfl (heap_alloc_last w _)) rfl ⟨rfl, (Below.refl _ _).alloc (Nat.le_refl _) _⟩

theorem one45 (k l m h : Int) (s : ByteArray) : (#[Value.int .u8 k, .int .u32 l, .int .u32 m, .int .u32 h, .string s] : Array Value).all (·.oneCell') = true := by simp [Value.oneCell']
abbrev zero45 : Array Value := #[.int .u8 0, .int .u32 0, .int .u32 0, .int .u32 0, .string ⟨#[]⟩]
end Go.Proofs.YtchankbdfkgdiaaDoor
