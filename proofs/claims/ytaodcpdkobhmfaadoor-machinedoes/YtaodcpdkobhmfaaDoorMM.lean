/- The document's own table of forms, walked. Which registers a kind has: strings.Contains at one byte, by the library's contract; laid at this program. -/
import Derived.Test.YtaodcpdkobhmfaaDoorE1
import Derived.Shelf.Strings.Search3
namespace Go.Proofs.YtaodcpdkobhmfaaDoor
open Go Go.RowKit

abbrev formV (k l m h : Int) (s : ByteArray) : Value := .agg #[.int .u8 k, .int .u32 l, .int .u32 m, .int .u32 h, .string s]
theorem res45 (fn : Func) (p u : Tmp) (hr : fn.results = #[.cell p 79, .tmp u]) (tmps : Array Value) (w : World) (g : Nat) (a b c d e : Value) (hp : tmps.getD p undef = .pointer (some ⟨g, 0, none⟩)) (hg : w.heap[g]? = some (.cells #[a, b, c, d, e] 79)) :
    (results fn tmps).run Tryd.prog w = .ok (.tuple #[.agg #[a, b, c, d, e], tmps.getD u undef]) w := by
  rw [results_cell_tmp hr, hp]
  have h1 : (loadVar 79 ⟨g, 0, none⟩).run Tryd.prog w = .ok (.agg #[a, b, c, d, e]) w := run_loadVar_row w g 79 79 _ (0, 0) _ hg Tryd.underlying79 rfl (by kernel_rfl)
  simp only [asAddr, Sem.run_pure, Result.andThen_ok, h1]
set_option maxHeartbeats 400000 in
theorem clo28 (m h : Int) (s : ByteArray) (w : World) : Calls Tryd.prog 51 #[.int .u32 m, .int .u32 h, .string s] w fun e w' => e = .returned (.tuple #[formV 82 51 m h s, .bool true]) ∧ Below w.heap.size w w' := by
  go_enter Tryd.func51, Tryd.ntmps51
  go_wp2
  exact bodyPost_ret (res45 _ _ _ Tryd.results51 _ _ w.heap.size _ _ _ _ _ rfl (heap_alloc_last w _)) rfl ⟨rfl, (Below.refl _ _).alloc (Nat.le_refl _) _⟩
set_option maxHeartbeats 400000 in
theorem clo29 (l m : Int) (s : ByteArray) (w : World) : Calls Tryd.prog 52 #[.int .u32 l, .int .u32 m, .string s] w fun e w' => e = .returned (.tuple #[formV 73 l m 0 s, .bool true]) ∧ Below w.heap.size w w' := by
  go_enter Tryd.func52, Tryd.ntmps52
  go_wp2
  exact bodyPost_ret (res45 _ _ _ Tryd.results52 _ _ w.heap.size _ _ _ _ _ rfl (heap_alloc_last w _)) rfl ⟨rfl, (Below.refl _ _).alloc (Nat.le_refl _) _⟩
set_option maxHeartbeats 400000 in
theorem clo30 (m h : Int) (s : ByteArray) (w : World) : Calls Tryd.prog 53 #[.int .u32 m, .int .u32 h, .string s] w fun e w' => e = .returned (.tuple #[formV 72 19 m h s, .bool true]) ∧ Below w.heap.size w w' := by
  go_enter Tryd.func53, Tryd.ntmps53
  go_wp2
  exact bodyPost_ret (res45 _ _ _ Tryd.results53 _ _ w.heap.size _ _ _ _ _ rfl (heap_alloc_last w _)) rfl ⟨rfl, (Below.refl _ _).alloc (Nat.le_refl _) _⟩
set_option maxHeartbeats 400000 in
theorem clo31 (m : Int) (s : ByteArray) (w : World) : Calls Tryd.prog 54 #[.int .u32 m, .string s] w fun e w' => e = .returned (.tuple #[formV 66 99 m 0 s, .bool true]) ∧ Below w.heap.size w w' := by
  go_enter Tryd.func54, Tryd.ntmps54
  go_wp2
  exact bodyPost_ret (res45 _ _ _ Tryd.results54 _ _ w.heap.size _ _ _ _ _ rfl (heap_alloc_last w _)) rfl ⟨rfl, (Below.refl _ _).alloc (Nat.le_refl _) _⟩

theorem one45 (k l m h : Int) (s : ByteArray) : (#[Value.int .u8 k, .int .u32 l, .int .u32 m, .int .u32 h, .string s] : Array Value).all (·.oneCell') = true := by simp [Value.oneCell']
abbrev zero45 : Array Value := #[.int .u8 0, .int .u32 0, .int .u32 0, .int .u32 0, .string ⟨#[]⟩]
end Go.Proofs.YtaodcpdkobhmfaaDoor

namespace Go.Proofs
open Go.Shelf
def YtaodcpdkobhmfaaDoor.lays144_ren : Go.Shelf.Ren := ⟨fun | 144 => 74 | 143 => 79 | 219 => 83 | 217 => 84 | 225 => 85 | 224 => 86 | 267 => 87 | 266 => 88 | 314 => 89 | n => n, fun | 9 => 9 | 4 => 4 | 3 => 3 | 5 => 5 | 46 => 34 | 146 => 164 | 51 => 54 | n => n, fun | 1 => 3 | n => n⟩
theorem YtaodcpdkobhmfaaDoor.lays144 : Go.Proofs.Lays.n144 Tryd.prog YtaodcpdkobhmfaaDoor.lays144_ren := {
  mixed := by kernel_rfl
  f143 := Tryd.func79.trans (congrArg some (by kernel_rfl))
  f144 := Tryd.func74.trans (congrArg some (by kernel_rfl))
  f217 := Tryd.func84.trans (congrArg some (by kernel_rfl))
  f219 := Tryd.func83.trans (congrArg some (by kernel_rfl))
  f224 := Tryd.func86.trans (congrArg some (by kernel_rfl))
  f225 := Tryd.func85.trans (congrArg some (by kernel_rfl))
  f266 := Tryd.func88.trans (congrArg some (by kernel_rfl))
  f267 := Tryd.func87.trans (congrArg some (by kernel_rfl))
  f314 := Tryd.func89.trans (congrArg some (by kernel_rfl))
  t3 := Tryd.underlying3
  a3 := Tryd.isAgg3
  z3 := Tryd.sizeOf3
  v3 := Tryd.zeroValue3
  t4 := Tryd.underlying4
  a4 := Tryd.isAgg4
  z4 := Tryd.sizeOf4
  v4 := Tryd.zeroValue4
  t5 := Tryd.underlying5
  a5 := Tryd.isAgg5
  z5 := Tryd.sizeOf5
  v5 := Tryd.zeroValue5
  t9 := Tryd.underlying9
  a9 := Tryd.isAgg9
  z9 := Tryd.sizeOf9
  v9 := Tryd.zeroValue9
  t46 := Tryd.underlying34
  a46 := Tryd.isAgg34
  z46 := Tryd.sizeOf34
  v46 := Tryd.zeroValue34
  t51 := Tryd.underlying54
  a51 := Tryd.isAgg54
  z51 := Tryd.sizeOf54
  v51 := Tryd.zeroValue54
  t146 := Tryd.underlying164
  a146 := Tryd.isAgg164
  z146 := Tryd.sizeOf164
  v146 := Tryd.zeroValue164
  g1 := by kernel_rfl }
open Go.RowKit Go.Lib in
/-- strings.Contains at one byte. -/
theorem YtaodcpdkobhmfaaDoor.strings_Contains_one (s : ByteArray) (c : UInt8) (w : World) :
    Calls Tryd.prog 74 #[.string s, .string ⟨#[c]⟩] w fun e w' => e = .returned (.bool (decide (0 ≤ Lib.indexByte s.data.toList c))) ∧ w' = w := Any.strings_Contains_one YtaodcpdkobhmfaaDoor.lays144 s c w
end Go.Proofs
