/- The document's own table of forms, walked: op by op. -/
import Derived.Test.YtjjjdplgdlaihaaGreatDoorMH
namespace Go.Proofs.YtjjjdplgdlaihaaGreatDoor
open Go Go.RowKit

set_option maxRecDepth 100000 in
set_option maxHeartbeats 1000000 in
theorem formN_1 (w : World) : Calls Tryz.prog 32 #[.int .i64 1] w fun e w' => e = .returned (.tuple #[formV 82 51 0 0 ⟨#[97, 100, 100]⟩, .bool true]) ∧ Below w.heap.size w w' := by
  go_enter Tryz.func32, Tryz.ntmps32
  go_wp2_with fail
  refine (clo28 0 0 ⟨#[97, 100, 100]⟩ _).mono ?_
  rintro e w1 ⟨rfl, hb⟩
  have HR : Hid (w1.heap[w.heap.size]? = some (.cells zero45 80)) := by
    show _ = _
    rw [hb.block _ (by simp)]; exact heap_alloc_last w _
  have HB : Hid (Below w.heap.size w w1) := ((Below.refl _ _).alloc (Nat.le_refl _) _).trans (hb.mono (by simp))
  clear hb
  go_wp2_with (refine wpList_store_row rfl 80 _ _ rfl w.heap.size 80 _ _ rfl rfl HR.out (by kernel_rfl) rfl (one45 _ _ _ _ _) ?_)
  exact bodyPost_ret (res45 _ _ _ Tryz.results32 _ _ w.heap.size _ _ _ _ _ rfl (setRow_heap w1 _ _ _ _ _ HR.out)) rfl ⟨rfl, below_setRow HB.out (Nat.le_refl _) _⟩
theorem formOf_1 (w : World) : Calls Tryz.prog 32 #[.int .i64 1] w fun e w' => (∃ s, e = .returned (.tuple #[formV 82 51 0 0 s, .bool true])) ∧ Below w.heap.size w w' := (formN_1 w).mono fun _ _ h => ⟨⟨_, h.1⟩, h.2⟩
set_option maxRecDepth 100000 in
set_option maxHeartbeats 1000000 in
theorem formN_2 (w : World) : Calls Tryz.prog 32 #[.int .i64 2] w fun e w' => e = .returned (.tuple #[formV 82 51 0 32 ⟨#[115, 117, 98]⟩, .bool true]) ∧ Below w.heap.size w w' := by
  go_enter Tryz.func32, Tryz.ntmps32
  go_wp2_with fail
  refine (clo28 0 32 ⟨#[115, 117, 98]⟩ _).mono ?_
  rintro e w1 ⟨rfl, hb⟩
  have HR : Hid (w1.heap[w.heap.size]? = some (.cells zero45 80)) := by
    show _ = _
    rw [hb.block _ (by simp)]; exact heap_alloc_last w _
  have HB : Hid (Below w.heap.size w w1) := ((Below.refl _ _).alloc (Nat.le_refl _) _).trans (hb.mono (by simp))
  clear hb
  go_wp2_with (refine wpList_store_row rfl 80 _ _ rfl w.heap.size 80 _ _ rfl rfl HR.out (by kernel_rfl) rfl (one45 _ _ _ _ _) ?_)
  exact bodyPost_ret (res45 _ _ _ Tryz.results32 _ _ w.heap.size _ _ _ _ _ rfl (setRow_heap w1 _ _ _ _ _ HR.out)) rfl ⟨rfl, below_setRow HB.out (Nat.le_refl _) _⟩
theorem formOf_2 (w : World) : Calls Tryz.prog 32 #[.int .i64 2] w fun e w' => (∃ s, e = .returned (.tuple #[formV 82 51 0 32 s, .bool true])) ∧ Below w.heap.size w w' := (formN_2 w).mono fun _ _ h => ⟨⟨_, h.1⟩, h.2⟩
set_option maxRecDepth 100000 in
set_option maxHeartbeats 1000000 in
theorem formN_3 (w : World) : Calls Tryz.prog 32 #[.int .i64 3] w fun e w' => e = .returned (.tuple #[formV 82 51 0 1 ⟨#[109, 117, 108]⟩, .bool true]) ∧ Below w.heap.size w w' := by
  go_enter Tryz.func32, Tryz.ntmps32
  go_wp2_with fail
  refine (clo28 0 1 ⟨#[109, 117, 108]⟩ _).mono ?_
  rintro e w1 ⟨rfl, hb⟩
  have HR : Hid (w1.heap[w.heap.size]? = some (.cells zero45 80)) := by
    show _ = _
    rw [hb.block _ (by simp)]; exact heap_alloc_last w _
  have HB : Hid (Below w.heap.size w w1) := ((Below.refl _ _).alloc (Nat.le_refl _) _).trans (hb.mono (by simp))
  clear hb
  go_wp2_with (refine wpList_store_row rfl 80 _ _ rfl w.heap.size 80 _ _ rfl rfl HR.out (by kernel_rfl) rfl (one45 _ _ _ _ _) ?_)
  exact bodyPost_ret (res45 _ _ _ Tryz.results32 _ _ w.heap.size _ _ _ _ _ rfl (setRow_heap w1 _ _ _ _ _ HR.out)) rfl ⟨rfl, below_setRow HB.out (Nat.le_refl _) _⟩
theorem formOf_3 (w : World) : Calls Tryz.prog 32 #[.int .i64 3] w fun e w' => (∃ s, e = .returned (.tuple #[formV 82 51 0 1 s, .bool true])) ∧ Below w.heap.size w w' := (formN_3 w).mono fun _ _ h => ⟨⟨_, h.1⟩, h.2⟩
set_option maxRecDepth 100000 in
set_option maxHeartbeats 1000000 in
theorem formN_4 (w : World) : Calls Tryz.prog 32 #[.int .i64 4] w fun e w' => e = .returned (.tuple #[formV 82 51 4 1 ⟨#[100, 105, 118]⟩, .bool true]) ∧ Below w.heap.size w w' := by
  go_enter Tryz.func32, Tryz.ntmps32
  go_wp2_with fail
  refine (clo28 4 1 ⟨#[100, 105, 118]⟩ _).mono ?_
  rintro e w1 ⟨rfl, hb⟩
  have HR : Hid (w1.heap[w.heap.size]? = some (.cells zero45 80)) := by
    show _ = _
    rw [hb.block _ (by simp)]; exact heap_alloc_last w _
  have HB : Hid (Below w.heap.size w w1) := ((Below.refl _ _).alloc (Nat.le_refl _) _).trans (hb.mono (by simp))
  clear hb
  go_wp2_with (refine wpList_store_row rfl 80 _ _ rfl w.heap.size 80 _ _ rfl rfl HR.out (by kernel_rfl) rfl (one45 _ _ _ _ _) ?_)
  exact bodyPost_ret (res45 _ _ _ Tryz.results32 _ _ w.heap.size _ _ _ _ _ rfl (setRow_heap w1 _ _ _ _ _ HR.out)) rfl ⟨rfl, below_setRow HB.out (Nat.le_refl _) _⟩
theorem formOf_4 (w : World) : Calls Tryz.prog 32 #[.int .i64 4] w fun e w' => (∃ s, e = .returned (.tuple #[formV 82 51 4 1 s, .bool true])) ∧ Below w.heap.size w w' := (formN_4 w).mono fun _ _ h => ⟨⟨_, h.1⟩, h.2⟩
set_option maxRecDepth 100000 in
set_option maxHeartbeats 1000000 in
theorem formN_5 (w : World) : Calls Tryz.prog 32 #[.int .i64 5] w fun e w' => e = .returned (.tuple #[formV 82 51 6 1 ⟨#[114, 101, 109]⟩, .bool true]) ∧ Below w.heap.size w w' := by
  go_enter Tryz.func32, Tryz.ntmps32
  go_wp2_with fail
  refine (clo28 6 1 ⟨#[114, 101, 109]⟩ _).mono ?_
  rintro e w1 ⟨rfl, hb⟩
  have HR : Hid (w1.heap[w.heap.size]? = some (.cells zero45 80)) := by
    show _ = _
    rw [hb.block _ (by simp)]; exact heap_alloc_last w _
  have HB : Hid (Below w.heap.size w w1) := ((Below.refl _ _).alloc (Nat.le_refl _) _).trans (hb.mono (by simp))
  clear hb
  go_wp2_with (refine wpList_store_row rfl 80 _ _ rfl w.heap.size 80 _ _ rfl rfl HR.out (by kernel_rfl) rfl (one45 _ _ _ _ _) ?_)
  exact bodyPost_ret (res45 _ _ _ Tryz.results32 _ _ w.heap.size _ _ _ _ _ rfl (setRow_heap w1 _ _ _ _ _ HR.out)) rfl ⟨rfl, below_setRow HB.out (Nat.le_refl _) _⟩
theorem formOf_5 (w : World) : Calls Tryz.prog 32 #[.int .i64 5] w fun e w' => (∃ s, e = .returned (.tuple #[formV 82 51 6 1 s, .bool true])) ∧ Below w.heap.size w w' := (formN_5 w).mono fun _ _ h => ⟨⟨_, h.1⟩, h.2⟩
set_option maxRecDepth 100000 in
set_option maxHeartbeats 1000000 in
theorem formN_6 (w : World) : Calls Tryz.prog 32 #[.int .i64 6] w fun e w' => e = .returned (.tuple #[formV 82 51 7 0 ⟨#[97, 110, 100]⟩, .bool true]) ∧ Below w.heap.size w w' := by
  go_enter Tryz.func32, Tryz.ntmps32
  go_wp2_with fail
  refine (clo28 7 0 ⟨#[97, 110, 100]⟩ _).mono ?_
  rintro e w1 ⟨rfl, hb⟩
  have HR : Hid (w1.heap[w.heap.size]? = some (.cells zero45 80)) := by
    show _ = _
    rw [hb.block _ (by simp)]; exact heap_alloc_last w _
  have HB : Hid (Below w.heap.size w w1) := ((Below.refl _ _).alloc (Nat.le_refl _) _).trans (hb.mono (by simp))
  clear hb
  go_wp2_with (refine wpList_store_row rfl 80 _ _ rfl w.heap.size 80 _ _ rfl rfl HR.out (by kernel_rfl) rfl (one45 _ _ _ _ _) ?_)
  exact bodyPost_ret (res45 _ _ _ Tryz.results32 _ _ w.heap.size _ _ _ _ _ rfl (setRow_heap w1 _ _ _ _ _ HR.out)) rfl ⟨rfl, below_setRow HB.out (Nat.le_refl _) _⟩
theorem formOf_6 (w : World) : Calls Tryz.prog 32 #[.int .i64 6] w fun e w' => (∃ s, e = .returned (.tuple #[formV 82 51 7 0 s, .bool true])) ∧ Below w.heap.size w w' := (formN_6 w).mono fun _ _ h => ⟨⟨_, h.1⟩, h.2⟩
set_option maxRecDepth 100000 in
set_option maxHeartbeats 1000000 in
theorem formN_7 (w : World) : Calls Tryz.prog 32 #[.int .i64 7] w fun e w' => e = .returned (.tuple #[formV 82 51 6 0 ⟨#[111, 114]⟩, .bool true]) ∧ Below w.heap.size w w' := by
  go_enter Tryz.func32, Tryz.ntmps32
  go_wp2_with fail
  refine (clo28 6 0 ⟨#[111, 114]⟩ _).mono ?_
  rintro e w1 ⟨rfl, hb⟩
  have HR : Hid (w1.heap[w.heap.size]? = some (.cells zero45 80)) := by
    show _ = _
    rw [hb.block _ (by simp)]; exact heap_alloc_last w _
  have HB : Hid (Below w.heap.size w w1) := ((Below.refl _ _).alloc (Nat.le_refl _) _).trans (hb.mono (by simp))
  clear hb
  go_wp2_with (refine wpList_store_row rfl 80 _ _ rfl w.heap.size 80 _ _ rfl rfl HR.out (by kernel_rfl) rfl (one45 _ _ _ _ _) ?_)
  exact bodyPost_ret (res45 _ _ _ Tryz.results32 _ _ w.heap.size _ _ _ _ _ rfl (setRow_heap w1 _ _ _ _ _ HR.out)) rfl ⟨rfl, below_setRow HB.out (Nat.le_refl _) _⟩
theorem formOf_7 (w : World) : Calls Tryz.prog 32 #[.int .i64 7] w fun e w' => (∃ s, e = .returned (.tuple #[formV 82 51 6 0 s, .bool true])) ∧ Below w.heap.size w w' := (formN_7 w).mono fun _ _ h => ⟨⟨_, h.1⟩, h.2⟩
set_option maxRecDepth 100000 in
set_option maxHeartbeats 1000000 in
theorem formN_8 (w : World) : Calls Tryz.prog 32 #[.int .i64 8] w fun e w' => e = .returned (.tuple #[formV 82 51 4 0 ⟨#[120, 111, 114]⟩, .bool true]) ∧ Below w.heap.size w w' := by
  go_enter Tryz.func32, Tryz.ntmps32
  go_wp2_with fail
  refine (clo28 4 0 ⟨#[120, 111, 114]⟩ _).mono ?_
  rintro e w1 ⟨rfl, hb⟩
  have HR : Hid (w1.heap[w.heap.size]? = some (.cells zero45 80)) := by
    show _ = _
    rw [hb.block _ (by simp)]; exact heap_alloc_last w _
  have HB : Hid (Below w.heap.size w w1) := ((Below.refl _ _).alloc (Nat.le_refl _) _).trans (hb.mono (by simp))
  clear hb
  go_wp2_with (refine wpList_store_row rfl 80 _ _ rfl w.heap.size 80 _ _ rfl rfl HR.out (by kernel_rfl) rfl (one45 _ _ _ _ _) ?_)
  exact bodyPost_ret (res45 _ _ _ Tryz.results32 _ _ w.heap.size _ _ _ _ _ rfl (setRow_heap w1 _ _ _ _ _ HR.out)) rfl ⟨rfl, below_setRow HB.out (Nat.le_refl _) _⟩
theorem formOf_8 (w : World) : Calls Tryz.prog 32 #[.int .i64 8] w fun e w' => (∃ s, e = .returned (.tuple #[formV 82 51 4 0 s, .bool true])) ∧ Below w.heap.size w w' := (formN_8 w).mono fun _ _ h => ⟨⟨_, h.1⟩, h.2⟩
set_option maxRecDepth 100000 in
set_option maxHeartbeats 1000000 in
theorem formN_9 (w : World) : Calls Tryz.prog 32 #[.int .i64 9] w fun e w' => e = .returned (.tuple #[formV 82 51 2 0 ⟨#[115, 108, 116]⟩, .bool true]) ∧ Below w.heap.size w w' := by
  go_enter Tryz.func32, Tryz.ntmps32
  go_wp2_with fail
  refine (clo28 2 0 ⟨#[115, 108, 116]⟩ _).mono ?_
  rintro e w1 ⟨rfl, hb⟩
  have HR : Hid (w1.heap[w.heap.size]? = some (.cells zero45 80)) := by
    show _ = _
    rw [hb.block _ (by simp)]; exact heap_alloc_last w _
  have HB : Hid (Below w.heap.size w w1) := ((Below.refl _ _).alloc (Nat.le_refl _) _).trans (hb.mono (by simp))
  clear hb
  go_wp2_with (refine wpList_store_row rfl 80 _ _ rfl w.heap.size 80 _ _ rfl rfl HR.out (by kernel_rfl) rfl (one45 _ _ _ _ _) ?_)
  exact bodyPost_ret (res45 _ _ _ Tryz.results32 _ _ w.heap.size _ _ _ _ _ rfl (setRow_heap w1 _ _ _ _ _ HR.out)) rfl ⟨rfl, below_setRow HB.out (Nat.le_refl _) _⟩
theorem formOf_9 (w : World) : Calls Tryz.prog 32 #[.int .i64 9] w fun e w' => (∃ s, e = .returned (.tuple #[formV 82 51 2 0 s, .bool true])) ∧ Below w.heap.size w w' := (formN_9 w).mono fun _ _ h => ⟨⟨_, h.1⟩, h.2⟩
set_option maxRecDepth 100000 in
set_option maxHeartbeats 1000000 in
theorem formN_10 (w : World) : Calls Tryz.prog 32 #[.int .i64 10] w fun e w' => e = .returned (.tuple #[formV 82 51 3 0 ⟨#[115, 108, 116, 117]⟩, .bool true]) ∧ Below w.heap.size w w' := by
  go_enter Tryz.func32, Tryz.ntmps32
  go_wp2_with fail
  refine (clo28 3 0 ⟨#[115, 108, 116, 117]⟩ _).mono ?_
  rintro e w1 ⟨rfl, hb⟩
  have HR : Hid (w1.heap[w.heap.size]? = some (.cells zero45 80)) := by
    show _ = _
    rw [hb.block _ (by simp)]; exact heap_alloc_last w _
  have HB : Hid (Below w.heap.size w w1) := ((Below.refl _ _).alloc (Nat.le_refl _) _).trans (hb.mono (by simp))
  clear hb
  go_wp2_with (refine wpList_store_row rfl 80 _ _ rfl w.heap.size 80 _ _ rfl rfl HR.out (by kernel_rfl) rfl (one45 _ _ _ _ _) ?_)
  exact bodyPost_ret (res45 _ _ _ Tryz.results32 _ _ w.heap.size _ _ _ _ _ rfl (setRow_heap w1 _ _ _ _ _ HR.out)) rfl ⟨rfl, below_setRow HB.out (Nat.le_refl _) _⟩
theorem formOf_10 (w : World) : Calls Tryz.prog 32 #[.int .i64 10] w fun e w' => (∃ s, e = .returned (.tuple #[formV 82 51 3 0 s, .bool true])) ∧ Below w.heap.size w w' := (formN_10 w).mono fun _ _ h => ⟨⟨_, h.1⟩, h.2⟩
set_option maxRecDepth 100000 in
set_option maxHeartbeats 1000000 in
theorem formN_11 (w : World) : Calls Tryz.prog 32 #[.int .i64 11] w fun e w' => e = .returned (.tuple #[formV 82 51 1 0 ⟨#[115, 108, 108]⟩, .bool true]) ∧ Below w.heap.size w w' := by
  go_enter Tryz.func32, Tryz.ntmps32
  go_wp2_with fail
  refine (clo28 1 0 ⟨#[115, 108, 108]⟩ _).mono ?_
  rintro e w1 ⟨rfl, hb⟩
  have HR : Hid (w1.heap[w.heap.size]? = some (.cells zero45 80)) := by
    show _ = _
    rw [hb.block _ (by simp)]; exact heap_alloc_last w _
  have HB : Hid (Below w.heap.size w w1) := ((Below.refl _ _).alloc (Nat.le_refl _) _).trans (hb.mono (by simp))
  clear hb
  go_wp2_with (refine wpList_store_row rfl 80 _ _ rfl w.heap.size 80 _ _ rfl rfl HR.out (by kernel_rfl) rfl (one45 _ _ _ _ _) ?_)
  exact bodyPost_ret (res45 _ _ _ Tryz.results32 _ _ w.heap.size _ _ _ _ _ rfl (setRow_heap w1 _ _ _ _ _ HR.out)) rfl ⟨rfl, below_setRow HB.out (Nat.le_refl _) _⟩
theorem formOf_11 (w : World) : Calls Tryz.prog 32 #[.int .i64 11] w fun e w' => (∃ s, e = .returned (.tuple #[formV 82 51 1 0 s, .bool true])) ∧ Below w.heap.size w w' := (formN_11 w).mono fun _ _ h => ⟨⟨_, h.1⟩, h.2⟩
set_option maxRecDepth 100000 in
set_option maxHeartbeats 1000000 in
theorem formN_12 (w : World) : Calls Tryz.prog 32 #[.int .i64 12] w fun e w' => e = .returned (.tuple #[formV 82 51 5 0 ⟨#[115, 114, 108]⟩, .bool true]) ∧ Below w.heap.size w w' := by
  go_enter Tryz.func32, Tryz.ntmps32
  go_wp2_with fail
  refine (clo28 5 0 ⟨#[115, 114, 108]⟩ _).mono ?_
  rintro e w1 ⟨rfl, hb⟩
  have HR : Hid (w1.heap[w.heap.size]? = some (.cells zero45 80)) := by
    show _ = _
    rw [hb.block _ (by simp)]; exact heap_alloc_last w _
  have HB : Hid (Below w.heap.size w w1) := ((Below.refl _ _).alloc (Nat.le_refl _) _).trans (hb.mono (by simp))
  clear hb
  go_wp2_with (refine wpList_store_row rfl 80 _ _ rfl w.heap.size 80 _ _ rfl rfl HR.out (by kernel_rfl) rfl (one45 _ _ _ _ _) ?_)
  exact bodyPost_ret (res45 _ _ _ Tryz.results32 _ _ w.heap.size _ _ _ _ _ rfl (setRow_heap w1 _ _ _ _ _ HR.out)) rfl ⟨rfl, below_setRow HB.out (Nat.le_refl _) _⟩
theorem formOf_12 (w : World) : Calls Tryz.prog 32 #[.int .i64 12] w fun e w' => (∃ s, e = .returned (.tuple #[formV 82 51 5 0 s, .bool true])) ∧ Below w.heap.size w w' := (formN_12 w).mono fun _ _ h => ⟨⟨_, h.1⟩, h.2⟩
set_option maxRecDepth 100000 in
set_option maxHeartbeats 1000000 in
theorem formN_13 (w : World) : Calls Tryz.prog 32 #[.int .i64 13] w fun e w' => e = .returned (.tuple #[formV 82 51 5 32 ⟨#[115, 114, 97]⟩, .bool true]) ∧ Below w.heap.size w w' := by
  go_enter Tryz.func32, Tryz.ntmps32
  go_wp2_with fail
  refine (clo28 5 32 ⟨#[115, 114, 97]⟩ _).mono ?_
  rintro e w1 ⟨rfl, hb⟩
  have HR : Hid (w1.heap[w.heap.size]? = some (.cells zero45 80)) := by
    show _ = _
    rw [hb.block _ (by simp)]; exact heap_alloc_last w _
  have HB : Hid (Below w.heap.size w w1) := ((Below.refl _ _).alloc (Nat.le_refl _) _).trans (hb.mono (by simp))
  clear hb
  go_wp2_with (refine wpList_store_row rfl 80 _ _ rfl w.heap.size 80 _ _ rfl rfl HR.out (by kernel_rfl) rfl (one45 _ _ _ _ _) ?_)
  exact bodyPost_ret (res45 _ _ _ Tryz.results32 _ _ w.heap.size _ _ _ _ _ rfl (setRow_heap w1 _ _ _ _ _ HR.out)) rfl ⟨rfl, below_setRow HB.out (Nat.le_refl _) _⟩
theorem formOf_13 (w : World) : Calls Tryz.prog 32 #[.int .i64 13] w fun e w' => (∃ s, e = .returned (.tuple #[formV 82 51 5 32 s, .bool true])) ∧ Below w.heap.size w w' := (formN_13 w).mono fun _ _ h => ⟨⟨_, h.1⟩, h.2⟩
set_option maxRecDepth 100000 in
set_option maxHeartbeats 1000000 in
theorem formN_14 (w : World) : Calls Tryz.prog 32 #[.int .i64 14] w fun e w' => e = .returned (.tuple #[formV 73 19 0 0 ⟨#[97, 100, 100, 105]⟩, .bool true]) ∧ Below w.heap.size w w' := by
  go_enter Tryz.func32, Tryz.ntmps32
  go_wp2_with fail
  refine (clo29 19 0 ⟨#[97, 100, 100, 105]⟩ _).mono ?_
  rintro e w1 ⟨rfl, hb⟩
  have HR : Hid (w1.heap[w.heap.size]? = some (.cells zero45 80)) := by
    show _ = _
    rw [hb.block _ (by simp)]; exact heap_alloc_last w _
  have HB : Hid (Below w.heap.size w w1) := ((Below.refl _ _).alloc (Nat.le_refl _) _).trans (hb.mono (by simp))
  clear hb
  go_wp2_with (refine wpList_store_row rfl 80 _ _ rfl w.heap.size 80 _ _ rfl rfl HR.out (by kernel_rfl) rfl (one45 _ _ _ _ _) ?_)
  exact bodyPost_ret (res45 _ _ _ Tryz.results32 _ _ w.heap.size _ _ _ _ _ rfl (setRow_heap w1 _ _ _ _ _ HR.out)) rfl ⟨rfl, below_setRow HB.out (Nat.le_refl _) _⟩
theorem formOf_14 (w : World) : Calls Tryz.prog 32 #[.int .i64 14] w fun e w' => (∃ s, e = .returned (.tuple #[formV 73 19 0 0 s, .bool true])) ∧ Below w.heap.size w w' := (formN_14 w).mono fun _ _ h => ⟨⟨_, h.1⟩, h.2⟩
set_option maxRecDepth 100000 in
set_option maxHeartbeats 1000000 in
theorem formN_15 (w : World) : Calls Tryz.prog 32 #[.int .i64 15] w fun e w' => e = .returned (.tuple #[formV 73 19 7 0 ⟨#[97, 110, 100, 105]⟩, .bool true]) ∧ Below w.heap.size w w' := by
  go_enter Tryz.func32, Tryz.ntmps32
  go_wp2_with fail
  refine (clo29 19 7 ⟨#[97, 110, 100, 105]⟩ _).mono ?_
  rintro e w1 ⟨rfl, hb⟩
  have HR : Hid (w1.heap[w.heap.size]? = some (.cells zero45 80)) := by
    show _ = _
    rw [hb.block _ (by simp)]; exact heap_alloc_last w _
  have HB : Hid (Below w.heap.size w w1) := ((Below.refl _ _).alloc (Nat.le_refl _) _).trans (hb.mono (by simp))
  clear hb
  go_wp2_with (refine wpList_store_row rfl 80 _ _ rfl w.heap.size 80 _ _ rfl rfl HR.out (by kernel_rfl) rfl (one45 _ _ _ _ _) ?_)
  exact bodyPost_ret (res45 _ _ _ Tryz.results32 _ _ w.heap.size _ _ _ _ _ rfl (setRow_heap w1 _ _ _ _ _ HR.out)) rfl ⟨rfl, below_setRow HB.out (Nat.le_refl _) _⟩
theorem formOf_15 (w : World) : Calls Tryz.prog 32 #[.int .i64 15] w fun e w' => (∃ s, e = .returned (.tuple #[formV 73 19 7 0 s, .bool true])) ∧ Below w.heap.size w w' := (formN_15 w).mono fun _ _ h => ⟨⟨_, h.1⟩, h.2⟩
set_option maxRecDepth 100000 in
set_option maxHeartbeats 1000000 in
theorem formN_16 (w : World) : Calls Tryz.prog 32 #[.int .i64 16] w fun e w' => e = .returned (.tuple #[formV 73 19 6 0 ⟨#[111, 114, 105]⟩, .bool true]) ∧ Below w.heap.size w w' := by
  go_enter Tryz.func32, Tryz.ntmps32
  go_wp2_with fail
  refine (clo29 19 6 ⟨#[111, 114, 105]⟩ _).mono ?_
  rintro e w1 ⟨rfl, hb⟩
  have HR : Hid (w1.heap[w.heap.size]? = some (.cells zero45 80)) := by
    show _ = _
    rw [hb.block _ (by simp)]; exact heap_alloc_last w _
  have HB : Hid (Below w.heap.size w w1) := ((Below.refl _ _).alloc (Nat.le_refl _) _).trans (hb.mono (by simp))
  clear hb
  go_wp2_with (refine wpList_store_row rfl 80 _ _ rfl w.heap.size 80 _ _ rfl rfl HR.out (by kernel_rfl) rfl (one45 _ _ _ _ _) ?_)
  exact bodyPost_ret (res45 _ _ _ Tryz.results32 _ _ w.heap.size _ _ _ _ _ rfl (setRow_heap w1 _ _ _ _ _ HR.out)) rfl ⟨rfl, below_setRow HB.out (Nat.le_refl _) _⟩
theorem formOf_16 (w : World) : Calls Tryz.prog 32 #[.int .i64 16] w fun e w' => (∃ s, e = .returned (.tuple #[formV 73 19 6 0 s, .bool true])) ∧ Below w.heap.size w w' := (formN_16 w).mono fun _ _ h => ⟨⟨_, h.1⟩, h.2⟩
set_option maxRecDepth 100000 in
set_option maxHeartbeats 1000000 in
theorem formN_17 (w : World) : Calls Tryz.prog 32 #[.int .i64 17] w fun e w' => e = .returned (.tuple #[formV 73 19 4 0 ⟨#[120, 111, 114, 105]⟩, .bool true]) ∧ Below w.heap.size w w' := by
  go_enter Tryz.func32, Tryz.ntmps32
  go_wp2_with fail
  refine (clo29 19 4 ⟨#[120, 111, 114, 105]⟩ _).mono ?_
  rintro e w1 ⟨rfl, hb⟩
  have HR : Hid (w1.heap[w.heap.size]? = some (.cells zero45 80)) := by
    show _ = _
    rw [hb.block _ (by simp)]; exact heap_alloc_last w _
  have HB : Hid (Below w.heap.size w w1) := ((Below.refl _ _).alloc (Nat.le_refl _) _).trans (hb.mono (by simp))
  clear hb
  go_wp2_with (refine wpList_store_row rfl 80 _ _ rfl w.heap.size 80 _ _ rfl rfl HR.out (by kernel_rfl) rfl (one45 _ _ _ _ _) ?_)
  exact bodyPost_ret (res45 _ _ _ Tryz.results32 _ _ w.heap.size _ _ _ _ _ rfl (setRow_heap w1 _ _ _ _ _ HR.out)) rfl ⟨rfl, below_setRow HB.out (Nat.le_refl _) _⟩
theorem formOf_17 (w : World) : Calls Tryz.prog 32 #[.int .i64 17] w fun e w' => (∃ s, e = .returned (.tuple #[formV 73 19 4 0 s, .bool true])) ∧ Below w.heap.size w w' := (formN_17 w).mono fun _ _ h => ⟨⟨_, h.1⟩, h.2⟩
set_option maxRecDepth 100000 in
set_option maxHeartbeats 1000000 in
theorem formN_18 (w : World) : Calls Tryz.prog 32 #[.int .i64 18] w fun e w' => e = .returned (.tuple #[formV 73 19 2 0 ⟨#[115, 108, 116, 105]⟩, .bool true]) ∧ Below w.heap.size w w' := by
  go_enter Tryz.func32, Tryz.ntmps32
  go_wp2_with fail
  refine (clo29 19 2 ⟨#[115, 108, 116, 105]⟩ _).mono ?_
  rintro e w1 ⟨rfl, hb⟩
  have HR : Hid (w1.heap[w.heap.size]? = some (.cells zero45 80)) := by
    show _ = _
    rw [hb.block _ (by simp)]; exact heap_alloc_last w _
  have HB : Hid (Below w.heap.size w w1) := ((Below.refl _ _).alloc (Nat.le_refl _) _).trans (hb.mono (by simp))
  clear hb
  go_wp2_with (refine wpList_store_row rfl 80 _ _ rfl w.heap.size 80 _ _ rfl rfl HR.out (by kernel_rfl) rfl (one45 _ _ _ _ _) ?_)
  exact bodyPost_ret (res45 _ _ _ Tryz.results32 _ _ w.heap.size _ _ _ _ _ rfl (setRow_heap w1 _ _ _ _ _ HR.out)) rfl ⟨rfl, below_setRow HB.out (Nat.le_refl _) _⟩
theorem formOf_18 (w : World) : Calls Tryz.prog 32 #[.int .i64 18] w fun e w' => (∃ s, e = .returned (.tuple #[formV 73 19 2 0 s, .bool true])) ∧ Below w.heap.size w w' := (formN_18 w).mono fun _ _ h => ⟨⟨_, h.1⟩, h.2⟩
set_option maxRecDepth 100000 in
set_option maxHeartbeats 1000000 in
theorem formN_19 (w : World) : Calls Tryz.prog 32 #[.int .i64 19] w fun e w' => e = .returned (.tuple #[formV 72 19 1 0 ⟨#[115, 108, 108, 105]⟩, .bool true]) ∧ Below w.heap.size w w' := by
  go_enter Tryz.func32, Tryz.ntmps32
  go_wp2_with fail
  refine (clo30 1 0 ⟨#[115, 108, 108, 105]⟩ _).mono ?_
  rintro e w1 ⟨rfl, hb⟩
  have HR : Hid (w1.heap[w.heap.size]? = some (.cells zero45 80)) := by
    show _ = _
    rw [hb.block _ (by simp)]; exact heap_alloc_last w _
  have HB : Hid (Below w.heap.size w w1) := ((Below.refl _ _).alloc (Nat.le_refl _) _).trans (hb.mono (by simp))
  clear hb
  go_wp2_with (refine wpList_store_row rfl 80 _ _ rfl w.heap.size 80 _ _ rfl rfl HR.out (by kernel_rfl) rfl (one45 _ _ _ _ _) ?_)
  exact bodyPost_ret (res45 _ _ _ Tryz.results32 _ _ w.heap.size _ _ _ _ _ rfl (setRow_heap w1 _ _ _ _ _ HR.out)) rfl ⟨rfl, below_setRow HB.out (Nat.le_refl _) _⟩
theorem formOf_19 (w : World) : Calls Tryz.prog 32 #[.int .i64 19] w fun e w' => (∃ s, e = .returned (.tuple #[formV 72 19 1 0 s, .bool true])) ∧ Below w.heap.size w w' := (formN_19 w).mono fun _ _ h => ⟨⟨_, h.1⟩, h.2⟩
set_option maxRecDepth 100000 in
set_option maxHeartbeats 1000000 in
theorem formN_20 (w : World) : Calls Tryz.prog 32 #[.int .i64 20] w fun e w' => e = .returned (.tuple #[formV 72 19 5 0 ⟨#[115, 114, 108, 105]⟩, .bool true]) ∧ Below w.heap.size w w' := by
  go_enter Tryz.func32, Tryz.ntmps32
  go_wp2_with fail
  refine (clo30 5 0 ⟨#[115, 114, 108, 105]⟩ _).mono ?_
  rintro e w1 ⟨rfl, hb⟩
  have HR : Hid (w1.heap[w.heap.size]? = some (.cells zero45 80)) := by
    show _ = _
    rw [hb.block _ (by simp)]; exact heap_alloc_last w _
  have HB : Hid (Below w.heap.size w w1) := ((Below.refl _ _).alloc (Nat.le_refl _) _).trans (hb.mono (by simp))
  clear hb
  go_wp2_with (refine wpList_store_row rfl 80 _ _ rfl w.heap.size 80 _ _ rfl rfl HR.out (by kernel_rfl) rfl (one45 _ _ _ _ _) ?_)
  exact bodyPost_ret (res45 _ _ _ Tryz.results32 _ _ w.heap.size _ _ _ _ _ rfl (setRow_heap w1 _ _ _ _ _ HR.out)) rfl ⟨rfl, below_setRow HB.out (Nat.le_refl _) _⟩
theorem formOf_20 (w : World) : Calls Tryz.prog 32 #[.int .i64 20] w fun e w' => (∃ s, e = .returned (.tuple #[formV 72 19 5 0 s, .bool true])) ∧ Below w.heap.size w w' := (formN_20 w).mono fun _ _ h => ⟨⟨_, h.1⟩, h.2⟩
set_option maxRecDepth 100000 in
set_option maxHeartbeats 1000000 in
theorem formN_21 (w : World) : Calls Tryz.prog 32 #[.int .i64 21] w fun e w' => e = .returned (.tuple #[formV 72 19 5 32 ⟨#[115, 114, 97, 105]⟩, .bool true]) ∧ Below w.heap.size w w' := by
  go_enter Tryz.func32, Tryz.ntmps32
  go_wp2_with fail
  refine (clo30 5 32 ⟨#[115, 114, 97, 105]⟩ _).mono ?_
  rintro e w1 ⟨rfl, hb⟩
  have HR : Hid (w1.heap[w.heap.size]? = some (.cells zero45 80)) := by
    show _ = _
    rw [hb.block _ (by simp)]; exact heap_alloc_last w _
  have HB : Hid (Below w.heap.size w w1) := ((Below.refl _ _).alloc (Nat.le_refl _) _).trans (hb.mono (by simp))
  clear hb
  go_wp2_with (refine wpList_store_row rfl 80 _ _ rfl w.heap.size 80 _ _ rfl rfl HR.out (by kernel_rfl) rfl (one45 _ _ _ _ _) ?_)
  exact bodyPost_ret (res45 _ _ _ Tryz.results32 _ _ w.heap.size _ _ _ _ _ rfl (setRow_heap w1 _ _ _ _ _ HR.out)) rfl ⟨rfl, below_setRow HB.out (Nat.le_refl _) _⟩
theorem formOf_21 (w : World) : Calls Tryz.prog 32 #[.int .i64 21] w fun e w' => (∃ s, e = .returned (.tuple #[formV 72 19 5 32 s, .bool true])) ∧ Below w.heap.size w w' := (formN_21 w).mono fun _ _ h => ⟨⟨_, h.1⟩, h.2⟩
set_option maxRecDepth 100000 in
set_option maxHeartbeats 1000000 in
theorem formN_22 (w : World) : Calls Tryz.prog 32 #[.int .i64 22] w fun e w' => e = .returned (.tuple #[formV 73 3 3 0 ⟨#[108, 100]⟩, .bool true]) ∧ Below w.heap.size w w' := by
  go_enter Tryz.func32, Tryz.ntmps32
  go_wp2_with fail
  refine (clo29 3 3 ⟨#[108, 100]⟩ _).mono ?_
  rintro e w1 ⟨rfl, hb⟩
  have HR : Hid (w1.heap[w.heap.size]? = some (.cells zero45 80)) := by
    show _ = _
    rw [hb.block _ (by simp)]; exact heap_alloc_last w _
  have HB : Hid (Below w.heap.size w w1) := ((Below.refl _ _).alloc (Nat.le_refl _) _).trans (hb.mono (by simp))
  clear hb
  go_wp2_with (refine wpList_store_row rfl 80 _ _ rfl w.heap.size 80 _ _ rfl rfl HR.out (by kernel_rfl) rfl (one45 _ _ _ _ _) ?_)
  exact bodyPost_ret (res45 _ _ _ Tryz.results32 _ _ w.heap.size _ _ _ _ _ rfl (setRow_heap w1 _ _ _ _ _ HR.out)) rfl ⟨rfl, below_setRow HB.out (Nat.le_refl _) _⟩
theorem formOf_22 (w : World) : Calls Tryz.prog 32 #[.int .i64 22] w fun e w' => (∃ s, e = .returned (.tuple #[formV 73 3 3 0 s, .bool true])) ∧ Below w.heap.size w w' := (formN_22 w).mono fun _ _ h => ⟨⟨_, h.1⟩, h.2⟩
set_option maxRecDepth 100000 in
set_option maxHeartbeats 1000000 in
theorem formN_23 (w : World) : Calls Tryz.prog 32 #[.int .i64 23] w fun e w' => e = .returned (.tuple #[formV 73 103 0 0 ⟨#[106, 97, 108, 114]⟩, .bool true]) ∧ Below w.heap.size w w' := by
  go_enter Tryz.func32, Tryz.ntmps32
  go_wp2_with fail
  refine (clo29 103 0 ⟨#[106, 97, 108, 114]⟩ _).mono ?_
  rintro e w1 ⟨rfl, hb⟩
  have HR : Hid (w1.heap[w.heap.size]? = some (.cells zero45 80)) := by
    show _ = _
    rw [hb.block _ (by simp)]; exact heap_alloc_last w _
  have HB : Hid (Below w.heap.size w w1) := ((Below.refl _ _).alloc (Nat.le_refl _) _).trans (hb.mono (by simp))
  clear hb
  go_wp2_with (refine wpList_store_row rfl 80 _ _ rfl w.heap.size 80 _ _ rfl rfl HR.out (by kernel_rfl) rfl (one45 _ _ _ _ _) ?_)
  exact bodyPost_ret (res45 _ _ _ Tryz.results32 _ _ w.heap.size _ _ _ _ _ rfl (setRow_heap w1 _ _ _ _ _ HR.out)) rfl ⟨rfl, below_setRow HB.out (Nat.le_refl _) _⟩
theorem formOf_23 (w : World) : Calls Tryz.prog 32 #[.int .i64 23] w fun e w' => (∃ s, e = .returned (.tuple #[formV 73 103 0 0 s, .bool true])) ∧ Below w.heap.size w w' := (formN_23 w).mono fun _ _ h => ⟨⟨_, h.1⟩, h.2⟩
set_option maxRecDepth 100000 in
set_option maxHeartbeats 1000000 in
theorem formN_24 (w : World) : Calls Tryz.prog 32 #[.int .i64 24] w fun e w' => e = .returned (.tuple #[formV 83 35 3 0 ⟨#[115, 100]⟩, .bool true]) ∧ Below w.heap.size w w' := by
  go_enter Tryz.func32, Tryz.ntmps32
  go_wp2_with fail
  exact bodyPost_ret (res45 _ _ _ Tryz.results32 _ _ w.heap.size _ _ _ _ _ rfl (heap_alloc_last w _)) rfl ⟨rfl, (Below.refl _ _).alloc (Nat.le_refl _) _⟩
theorem formOf_24 (w : World) : Calls Tryz.prog 32 #[.int .i64 24] w fun e w' => (∃ s, e = .returned (.tuple #[formV 83 35 3 0 s, .bool true])) ∧ Below w.heap.size w w' := (formN_24 w).mono fun _ _ h => ⟨⟨_, h.1⟩, h.2⟩
set_option maxRecDepth 100000 in
set_option maxHeartbeats 1000000 in
theorem formN_25 (w : World) : Calls Tryz.prog 32 #[.int .i64 25] w fun e w' => e = .returned (.tuple #[formV 66 99 0 0 ⟨#[98, 101, 113]⟩, .bool true]) ∧ Below w.heap.size w w' := by
  go_enter Tryz.func32, Tryz.ntmps32
  go_wp2_with fail
  refine (clo31 0 ⟨#[98, 101, 113]⟩ _).mono ?_
  rintro e w1 ⟨rfl, hb⟩
  have HR : Hid (w1.heap[w.heap.size]? = some (.cells zero45 80)) := by
    show _ = _
    rw [hb.block _ (by simp)]; exact heap_alloc_last w _
  have HB : Hid (Below w.heap.size w w1) := ((Below.refl _ _).alloc (Nat.le_refl _) _).trans (hb.mono (by simp))
  clear hb
  go_wp2_with (refine wpList_store_row rfl 80 _ _ rfl w.heap.size 80 _ _ rfl rfl HR.out (by kernel_rfl) rfl (one45 _ _ _ _ _) ?_)
  exact bodyPost_ret (res45 _ _ _ Tryz.results32 _ _ w.heap.size _ _ _ _ _ rfl (setRow_heap w1 _ _ _ _ _ HR.out)) rfl ⟨rfl, below_setRow HB.out (Nat.le_refl _) _⟩
theorem formOf_25 (w : World) : Calls Tryz.prog 32 #[.int .i64 25] w fun e w' => (∃ s, e = .returned (.tuple #[formV 66 99 0 0 s, .bool true])) ∧ Below w.heap.size w w' := (formN_25 w).mono fun _ _ h => ⟨⟨_, h.1⟩, h.2⟩
set_option maxRecDepth 100000 in
set_option maxHeartbeats 1000000 in
theorem formN_26 (w : World) : Calls Tryz.prog 32 #[.int .i64 26] w fun e w' => e = .returned (.tuple #[formV 66 99 1 0 ⟨#[98, 110, 101]⟩, .bool true]) ∧ Below w.heap.size w w' := by
  go_enter Tryz.func32, Tryz.ntmps32
  go_wp2_with fail
  refine (clo31 1 ⟨#[98, 110, 101]⟩ _).mono ?_
  rintro e w1 ⟨rfl, hb⟩
  have HR : Hid (w1.heap[w.heap.size]? = some (.cells zero45 80)) := by
    show _ = _
    rw [hb.block _ (by simp)]; exact heap_alloc_last w _
  have HB : Hid (Below w.heap.size w w1) := ((Below.refl _ _).alloc (Nat.le_refl _) _).trans (hb.mono (by simp))
  clear hb
  go_wp2_with (refine wpList_store_row rfl 80 _ _ rfl w.heap.size 80 _ _ rfl rfl HR.out (by kernel_rfl) rfl (one45 _ _ _ _ _) ?_)
  exact bodyPost_ret (res45 _ _ _ Tryz.results32 _ _ w.heap.size _ _ _ _ _ rfl (setRow_heap w1 _ _ _ _ _ HR.out)) rfl ⟨rfl, below_setRow HB.out (Nat.le_refl _) _⟩
theorem formOf_26 (w : World) : Calls Tryz.prog 32 #[.int .i64 26] w fun e w' => (∃ s, e = .returned (.tuple #[formV 66 99 1 0 s, .bool true])) ∧ Below w.heap.size w w' := (formN_26 w).mono fun _ _ h => ⟨⟨_, h.1⟩, h.2⟩
set_option maxRecDepth 100000 in
set_option maxHeartbeats 1000000 in
theorem formN_27 (w : World) : Calls Tryz.prog 32 #[.int .i64 27] w fun e w' => e = .returned (.tuple #[formV 66 99 4 0 ⟨#[98, 108, 116]⟩, .bool true]) ∧ Below w.heap.size w w' := by
  go_enter Tryz.func32, Tryz.ntmps32
  go_wp2_with fail
  refine (clo31 4 ⟨#[98, 108, 116]⟩ _).mono ?_
  rintro e w1 ⟨rfl, hb⟩
  have HR : Hid (w1.heap[w.heap.size]? = some (.cells zero45 80)) := by
    show _ = _
    rw [hb.block _ (by simp)]; exact heap_alloc_last w _
  have HB : Hid (Below w.heap.size w w1) := ((Below.refl _ _).alloc (Nat.le_refl _) _).trans (hb.mono (by simp))
  clear hb
  go_wp2_with (refine wpList_store_row rfl 80 _ _ rfl w.heap.size 80 _ _ rfl rfl HR.out (by kernel_rfl) rfl (one45 _ _ _ _ _) ?_)
  exact bodyPost_ret (res45 _ _ _ Tryz.results32 _ _ w.heap.size _ _ _ _ _ rfl (setRow_heap w1 _ _ _ _ _ HR.out)) rfl ⟨rfl, below_setRow HB.out (Nat.le_refl _) _⟩
theorem formOf_27 (w : World) : Calls Tryz.prog 32 #[.int .i64 27] w fun e w' => (∃ s, e = .returned (.tuple #[formV 66 99 4 0 s, .bool true])) ∧ Below w.heap.size w w' := (formN_27 w).mono fun _ _ h => ⟨⟨_, h.1⟩, h.2⟩
set_option maxRecDepth 100000 in
set_option maxHeartbeats 1000000 in
theorem formN_28 (w : World) : Calls Tryz.prog 32 #[.int .i64 28] w fun e w' => e = .returned (.tuple #[formV 66 99 5 0 ⟨#[98, 103, 101]⟩, .bool true]) ∧ Below w.heap.size w w' := by
  go_enter Tryz.func32, Tryz.ntmps32
  go_wp2_with fail
  refine (clo31 5 ⟨#[98, 103, 101]⟩ _).mono ?_
  rintro e w1 ⟨rfl, hb⟩
  have HR : Hid (w1.heap[w.heap.size]? = some (.cells zero45 80)) := by
    show _ = _
    rw [hb.block _ (by simp)]; exact heap_alloc_last w _
  have HB : Hid (Below w.heap.size w w1) := ((Below.refl _ _).alloc (Nat.le_refl _) _).trans (hb.mono (by simp))
  clear hb
  go_wp2_with (refine wpList_store_row rfl 80 _ _ rfl w.heap.size 80 _ _ rfl rfl HR.out (by kernel_rfl) rfl (one45 _ _ _ _ _) ?_)
  exact bodyPost_ret (res45 _ _ _ Tryz.results32 _ _ w.heap.size _ _ _ _ _ rfl (setRow_heap w1 _ _ _ _ _ HR.out)) rfl ⟨rfl, below_setRow HB.out (Nat.le_refl _) _⟩
theorem formOf_28 (w : World) : Calls Tryz.prog 32 #[.int .i64 28] w fun e w' => (∃ s, e = .returned (.tuple #[formV 66 99 5 0 s, .bool true])) ∧ Below w.heap.size w w' := (formN_28 w).mono fun _ _ h => ⟨⟨_, h.1⟩, h.2⟩
set_option maxRecDepth 100000 in
set_option maxHeartbeats 1000000 in
theorem formN_29 (w : World) : Calls Tryz.prog 32 #[.int .i64 29] w fun e w' => e = .returned (.tuple #[formV 85 55 0 0 ⟨#[108, 117, 105]⟩, .bool true]) ∧ Below w.heap.size w w' := by
  go_enter Tryz.func32, Tryz.ntmps32
  go_wp2_with fail
  exact bodyPost_ret (res45 _ _ _ Tryz.results32 _ _ w.heap.size _ _ _ _ _ rfl (heap_alloc_last w _)) rfl ⟨rfl, (Below.refl _ _).alloc (Nat.le_refl _) _⟩
theorem formOf_29 (w : World) : Calls Tryz.prog 32 #[.int .i64 29] w fun e w' => (∃ s, e = .returned (.tuple #[formV 85 55 0 0 s, .bool true])) ∧ Below w.heap.size w w' := (formN_29 w).mono fun _ _ h => ⟨⟨_, h.1⟩, h.2⟩
set_option maxRecDepth 100000 in
set_option maxHeartbeats 1000000 in
theorem formN_30 (w : World) : Calls Tryz.prog 32 #[.int .i64 30] w fun e w' => e = .returned (.tuple #[formV 74 111 0 0 ⟨#[106, 97, 108]⟩, .bool true]) ∧ Below w.heap.size w w' := by
  go_enter Tryz.func32, Tryz.ntmps32
  go_wp2_with fail
  exact bodyPost_ret (res45 _ _ _ Tryz.results32 _ _ w.heap.size _ _ _ _ _ rfl (heap_alloc_last w _)) rfl ⟨rfl, (Below.refl _ _).alloc (Nat.le_refl _) _⟩
theorem formOf_30 (w : World) : Calls Tryz.prog 32 #[.int .i64 30] w fun e w' => (∃ s, e = .returned (.tuple #[formV 74 111 0 0 s, .bool true])) ∧ Below w.heap.size w w' := (formN_30 w).mono fun _ _ h => ⟨⟨_, h.1⟩, h.2⟩
set_option maxRecDepth 100000 in
set_option maxHeartbeats 1000000 in
theorem formN_31 (w : World) : Calls Tryz.prog 32 #[.int .i64 31] w fun e w' => e = .returned (.tuple #[formV 69 115 0 0 ⟨#[101, 99, 97, 108, 108]⟩, .bool true]) ∧ Below w.heap.size w w' := by
  go_enter Tryz.func32, Tryz.ntmps32
  go_wp2_with fail
  exact bodyPost_ret (res45 _ _ _ Tryz.results32 _ _ w.heap.size _ _ _ _ _ rfl (heap_alloc_last w _)) rfl ⟨rfl, (Below.refl _ _).alloc (Nat.le_refl _) _⟩
theorem formOf_31 (w : World) : Calls Tryz.prog 32 #[.int .i64 31] w fun e w' => (∃ s, e = .returned (.tuple #[formV 69 115 0 0 s, .bool true])) ∧ Below w.heap.size w w' := (formN_31 w).mono fun _ _ h => ⟨⟨_, h.1⟩, h.2⟩
end Go.Proofs.YtjjjdplgdlaihaaGreatDoor
