/- The document's shape, walked: what stands behind an op. -/
import Derived.Test.YtjjjdplgdlaihaaGreatDoorMN
import Derived.Test.YtjjjdplgdlaihaaGreatDoorML
import Derived.Test.YtjjjdplgdlaihaaGreatDoorMC
namespace Go.Proofs.YtjjjdplgdlaihaaGreatDoor
set_option linter.unusedVariables false
open Go Go.RowKit
set_option maxRecDepth 100000 in
set_option maxHeartbeats 4000000 in
theorem shape_R (o l m h : Int) (w : World) (hF : FormIs o 82 l m h) :
    Calls Tryz.prog 33 #[.int .i64 o] w fun e w' => e = .returned (.string ⟨#[100, 97, 98]⟩) ∧ Below w.heap.size w w' := by
  have HF : Hid (FormIs o 82 l m h) := hF
  clear hF
  go_enter Tryz.func33, Tryz.ntmps33
  go_wp2_with fail
  refine (HF.out _).mono ?_
  rintro e w1 ⟨⟨s, rfl⟩, hb⟩
  have HB : Hid (Below w.heap.size w w1) := hb
  have HS : Hid (w.heap.size ≤ w1.heap.size) := hb.size
  clear hb
  go_wp2_with (
    (refine wpList_store_row rfl 80 _ _ rfl _ 80 _ _ rfl rfl (heap_alloc_last _ _) (by kernel_rfl) rfl (one45 _ _ _ _ _) ?_
     obtain ⟨w2, hw2⟩ : ∃ w2, w2 = (w1.alloc (.cells zero45 80)).setRow w1.heap.size #[Value.int .u8 82, .int .u32 l, .int .u32 m, .int .u32 h, .string s] := ⟨_, rfl⟩
     rw [← hw2]
     have p0 : w2.cell? ⟨w1.heap.size, 0, none⟩ = some (.int .u8 82) := by
       have G1 : w2.heap[w1.heap.size]? = some (.cells #[Value.int .u8 82, .int .u32 l, .int .u32 m, .int .u32 h, .string s] 80) := by
         rw [hw2]; exact setRow_heap _ _ _ _ _ _ (heap_alloc_last _ _)
       rw [cell_of_row _ _ _ _ _ _ G1]; rfl
     have HB2 : Hid (Below w.heap.size w w2) := by
       show Below _ _ _
       rw [hw2]; exact below_setRow (HB.out.alloc HS.out _) HS.out _
     clear hw2))
  go_ret
  exact ⟨rfl, HB2.out⟩
set_option maxRecDepth 100000 in
set_option maxHeartbeats 4000000 in
theorem shape_I (o l m h : Int) (w : World) (hF : FormIs o 73 l m h) (h2 : (o == 22) = false) (h3 : (o == 23) = false) :
    Calls Tryz.prog 33 #[.int .i64 o] w fun e w' => e = .returned (.string ⟨#[100, 97, 110]⟩) ∧ Below w.heap.size w w' := by
  have HF : Hid (FormIs o 73 l m h) := hF
  clear hF
  go_enter Tryz.func33, Tryz.ntmps33
  go_wp2_with fail
  refine (HF.out _).mono ?_
  rintro e w1 ⟨⟨s, rfl⟩, hb⟩
  have HB : Hid (Below w.heap.size w w1) := hb
  have HS : Hid (w.heap.size ≤ w1.heap.size) := hb.size
  clear hb
  go_wp2_with (
    (refine wpList_store_row rfl 80 _ _ rfl _ 80 _ _ rfl rfl (heap_alloc_last _ _) (by kernel_rfl) rfl (one45 _ _ _ _ _) ?_
     obtain ⟨w2, hw2⟩ : ∃ w2, w2 = (w1.alloc (.cells zero45 80)).setRow w1.heap.size #[Value.int .u8 73, .int .u32 l, .int .u32 m, .int .u32 h, .string s] := ⟨_, rfl⟩
     rw [← hw2]
     have p0 : w2.cell? ⟨w1.heap.size, 0, none⟩ = some (.int .u8 73) := by
       have G1 : w2.heap[w1.heap.size]? = some (.cells #[Value.int .u8 73, .int .u32 l, .int .u32 m, .int .u32 h, .string s] 80) := by
         rw [hw2]; exact setRow_heap _ _ _ _ _ _ (heap_alloc_last _ _)
       rw [cell_of_row _ _ _ _ _ _ G1]; rfl
     have HB2 : Hid (Below w.heap.size w w2) := by
       show Below _ _ _
       rw [hw2]; exact below_setRow (HB.out.alloc HS.out _) HS.out _
     clear hw2))
  go_ret
  exact ⟨rfl, HB2.out⟩
set_option maxRecDepth 100000 in
set_option maxHeartbeats 4000000 in
theorem shape_H (o l m h : Int) (w : World) (hF : FormIs o 72 l m h) (h2 : (o == 22) = false) (h3 : (o == 23) = false) :
    Calls Tryz.prog 33 #[.int .i64 o] w fun e w' => e = .returned (.string ⟨#[100, 97, 110]⟩) ∧ Below w.heap.size w w' := by
  have HF : Hid (FormIs o 72 l m h) := hF
  clear hF
  go_enter Tryz.func33, Tryz.ntmps33
  go_wp2_with fail
  refine (HF.out _).mono ?_
  rintro e w1 ⟨⟨s, rfl⟩, hb⟩
  have HB : Hid (Below w.heap.size w w1) := hb
  have HS : Hid (w.heap.size ≤ w1.heap.size) := hb.size
  clear hb
  go_wp2_with (
    (refine wpList_store_row rfl 80 _ _ rfl _ 80 _ _ rfl rfl (heap_alloc_last _ _) (by kernel_rfl) rfl (one45 _ _ _ _ _) ?_
     obtain ⟨w2, hw2⟩ : ∃ w2, w2 = (w1.alloc (.cells zero45 80)).setRow w1.heap.size #[Value.int .u8 72, .int .u32 l, .int .u32 m, .int .u32 h, .string s] := ⟨_, rfl⟩
     rw [← hw2]
     have p0 : w2.cell? ⟨w1.heap.size, 0, none⟩ = some (.int .u8 72) := by
       have G1 : w2.heap[w1.heap.size]? = some (.cells #[Value.int .u8 72, .int .u32 l, .int .u32 m, .int .u32 h, .string s] 80) := by
         rw [hw2]; exact setRow_heap _ _ _ _ _ _ (heap_alloc_last _ _)
       rw [cell_of_row _ _ _ _ _ _ G1]; rfl
     have HB2 : Hid (Below w.heap.size w w2) := by
       show Below _ _ _
       rw [hw2]; exact below_setRow (HB.out.alloc HS.out _) HS.out _
     clear hw2))
  go_ret
  exact ⟨rfl, HB2.out⟩
set_option maxRecDepth 100000 in
set_option maxHeartbeats 4000000 in
theorem shape_S (o l m h : Int) (w : World) (hF : FormIs o 83 l m h) (h2 : (o == 22) = false) (h3 : (o == 23) = false) :
    Calls Tryz.prog 33 #[.int .i64 o] w fun e w' => e = .returned (.string ⟨#[98, 109]⟩) ∧ Below w.heap.size w w' := by
  have HF : Hid (FormIs o 83 l m h) := hF
  clear hF
  go_enter Tryz.func33, Tryz.ntmps33
  go_wp2_with fail
  refine (HF.out _).mono ?_
  rintro e w1 ⟨⟨s, rfl⟩, hb⟩
  have HB : Hid (Below w.heap.size w w1) := hb
  have HS : Hid (w.heap.size ≤ w1.heap.size) := hb.size
  clear hb
  go_wp2_with (
    (refine wpList_store_row rfl 80 _ _ rfl _ 80 _ _ rfl rfl (heap_alloc_last _ _) (by kernel_rfl) rfl (one45 _ _ _ _ _) ?_
     obtain ⟨w2, hw2⟩ : ∃ w2, w2 = (w1.alloc (.cells zero45 80)).setRow w1.heap.size #[Value.int .u8 83, .int .u32 l, .int .u32 m, .int .u32 h, .string s] := ⟨_, rfl⟩
     rw [← hw2]
     have p0 : w2.cell? ⟨w1.heap.size, 0, none⟩ = some (.int .u8 83) := by
       have G1 : w2.heap[w1.heap.size]? = some (.cells #[Value.int .u8 83, .int .u32 l, .int .u32 m, .int .u32 h, .string s] 80) := by
         rw [hw2]; exact setRow_heap _ _ _ _ _ _ (heap_alloc_last _ _)
       rw [cell_of_row _ _ _ _ _ _ G1]; rfl
     have HB2 : Hid (Below w.heap.size w w2) := by
       show Below _ _ _
       rw [hw2]; exact below_setRow (HB.out.alloc HS.out _) HS.out _
     clear hw2))
  go_ret
  exact ⟨rfl, HB2.out⟩
set_option maxRecDepth 100000 in
set_option maxHeartbeats 4000000 in
theorem shape_B (o l m h : Int) (w : World) (hF : FormIs o 66 l m h) (h2 : (o == 22) = false) (h3 : (o == 23) = false) :
    Calls Tryz.prog 33 #[.int .i64 o] w fun e w' => e = .returned (.string ⟨#[97, 98, 116]⟩) ∧ Below w.heap.size w w' := by
  have HF : Hid (FormIs o 66 l m h) := hF
  clear hF
  go_enter Tryz.func33, Tryz.ntmps33
  go_wp2_with fail
  refine (HF.out _).mono ?_
  rintro e w1 ⟨⟨s, rfl⟩, hb⟩
  have HB : Hid (Below w.heap.size w w1) := hb
  have HS : Hid (w.heap.size ≤ w1.heap.size) := hb.size
  clear hb
  go_wp2_with (
    (refine wpList_store_row rfl 80 _ _ rfl _ 80 _ _ rfl rfl (heap_alloc_last _ _) (by kernel_rfl) rfl (one45 _ _ _ _ _) ?_
     obtain ⟨w2, hw2⟩ : ∃ w2, w2 = (w1.alloc (.cells zero45 80)).setRow w1.heap.size #[Value.int .u8 66, .int .u32 l, .int .u32 m, .int .u32 h, .string s] := ⟨_, rfl⟩
     rw [← hw2]
     have p0 : w2.cell? ⟨w1.heap.size, 0, none⟩ = some (.int .u8 66) := by
       have G1 : w2.heap[w1.heap.size]? = some (.cells #[Value.int .u8 66, .int .u32 l, .int .u32 m, .int .u32 h, .string s] 80) := by
         rw [hw2]; exact setRow_heap _ _ _ _ _ _ (heap_alloc_last _ _)
       rw [cell_of_row _ _ _ _ _ _ G1]; rfl
     have HB2 : Hid (Below w.heap.size w w2) := by
       show Below _ _ _
       rw [hw2]; exact below_setRow (HB.out.alloc HS.out _) HS.out _
     clear hw2))
  go_ret
  exact ⟨rfl, HB2.out⟩
set_option maxRecDepth 100000 in
set_option maxHeartbeats 4000000 in
theorem shape_U (o l m h : Int) (w : World) (hF : FormIs o 85 l m h) (h2 : (o == 22) = false) (h3 : (o == 23) = false) :
    Calls Tryz.prog 33 #[.int .i64 o] w fun e w' => e = .returned (.string ⟨#[100, 110]⟩) ∧ Below w.heap.size w w' := by
  have HF : Hid (FormIs o 85 l m h) := hF
  clear hF
  go_enter Tryz.func33, Tryz.ntmps33
  go_wp2_with fail
  refine (HF.out _).mono ?_
  rintro e w1 ⟨⟨s, rfl⟩, hb⟩
  have HB : Hid (Below w.heap.size w w1) := hb
  have HS : Hid (w.heap.size ≤ w1.heap.size) := hb.size
  clear hb
  go_wp2_with (
    (refine wpList_store_row rfl 80 _ _ rfl _ 80 _ _ rfl rfl (heap_alloc_last _ _) (by kernel_rfl) rfl (one45 _ _ _ _ _) ?_
     obtain ⟨w2, hw2⟩ : ∃ w2, w2 = (w1.alloc (.cells zero45 80)).setRow w1.heap.size #[Value.int .u8 85, .int .u32 l, .int .u32 m, .int .u32 h, .string s] := ⟨_, rfl⟩
     rw [← hw2]
     have p0 : w2.cell? ⟨w1.heap.size, 0, none⟩ = some (.int .u8 85) := by
       have G1 : w2.heap[w1.heap.size]? = some (.cells #[Value.int .u8 85, .int .u32 l, .int .u32 m, .int .u32 h, .string s] 80) := by
         rw [hw2]; exact setRow_heap _ _ _ _ _ _ (heap_alloc_last _ _)
       rw [cell_of_row _ _ _ _ _ _ G1]; rfl
     have HB2 : Hid (Below w.heap.size w w2) := by
       show Below _ _ _
       rw [hw2]; exact below_setRow (HB.out.alloc HS.out _) HS.out _
     clear hw2))
  go_ret
  exact ⟨rfl, HB2.out⟩
set_option maxRecDepth 100000 in
set_option maxHeartbeats 4000000 in
theorem shape_J (o l m h : Int) (w : World) (hF : FormIs o 74 l m h) (h2 : (o == 22) = false) (h3 : (o == 23) = false) :
    Calls Tryz.prog 33 #[.int .i64 o] w fun e w' => e = .returned (.string ⟨#[100, 116]⟩) ∧ Below w.heap.size w w' := by
  have HF : Hid (FormIs o 74 l m h) := hF
  clear hF
  go_enter Tryz.func33, Tryz.ntmps33
  go_wp2_with fail
  refine (HF.out _).mono ?_
  rintro e w1 ⟨⟨s, rfl⟩, hb⟩
  have HB : Hid (Below w.heap.size w w1) := hb
  have HS : Hid (w.heap.size ≤ w1.heap.size) := hb.size
  clear hb
  go_wp2_with (
    (refine wpList_store_row rfl 80 _ _ rfl _ 80 _ _ rfl rfl (heap_alloc_last _ _) (by kernel_rfl) rfl (one45 _ _ _ _ _) ?_
     obtain ⟨w2, hw2⟩ : ∃ w2, w2 = (w1.alloc (.cells zero45 80)).setRow w1.heap.size #[Value.int .u8 74, .int .u32 l, .int .u32 m, .int .u32 h, .string s] := ⟨_, rfl⟩
     rw [← hw2]
     have p0 : w2.cell? ⟨w1.heap.size, 0, none⟩ = some (.int .u8 74) := by
       have G1 : w2.heap[w1.heap.size]? = some (.cells #[Value.int .u8 74, .int .u32 l, .int .u32 m, .int .u32 h, .string s] 80) := by
         rw [hw2]; exact setRow_heap _ _ _ _ _ _ (heap_alloc_last _ _)
       rw [cell_of_row _ _ _ _ _ _ G1]; rfl
     have HB2 : Hid (Below w.heap.size w w2) := by
       show Below _ _ _
       rw [hw2]; exact below_setRow (HB.out.alloc HS.out _) HS.out _
     clear hw2))
  go_ret
  exact ⟨rfl, HB2.out⟩
set_option maxRecDepth 100000 in
set_option maxHeartbeats 4000000 in
theorem shape_E (o l m h : Int) (w : World) (hF : FormIs o 69 l m h) (h2 : (o == 22) = false) (h3 : (o == 23) = false) :
    Calls Tryz.prog 33 #[.int .i64 o] w fun e w' => e = .returned (.string ⟨#[]⟩) ∧ Below w.heap.size w w' := by
  have HF : Hid (FormIs o 69 l m h) := hF
  clear hF
  go_enter Tryz.func33, Tryz.ntmps33
  go_wp2_with fail
  refine (HF.out _).mono ?_
  rintro e w1 ⟨⟨s, rfl⟩, hb⟩
  have HB : Hid (Below w.heap.size w w1) := hb
  have HS : Hid (w.heap.size ≤ w1.heap.size) := hb.size
  clear hb
  go_wp2_with (
    (refine wpList_store_row rfl 80 _ _ rfl _ 80 _ _ rfl rfl (heap_alloc_last _ _) (by kernel_rfl) rfl (one45 _ _ _ _ _) ?_
     obtain ⟨w2, hw2⟩ : ∃ w2, w2 = (w1.alloc (.cells zero45 80)).setRow w1.heap.size #[Value.int .u8 69, .int .u32 l, .int .u32 m, .int .u32 h, .string s] := ⟨_, rfl⟩
     rw [← hw2]
     have p0 : w2.cell? ⟨w1.heap.size, 0, none⟩ = some (.int .u8 69) := by
       have G1 : w2.heap[w1.heap.size]? = some (.cells #[Value.int .u8 69, .int .u32 l, .int .u32 m, .int .u32 h, .string s] 80) := by
         rw [hw2]; exact setRow_heap _ _ _ _ _ _ (heap_alloc_last _ _)
       rw [cell_of_row _ _ _ _ _ _ G1]; rfl
     have HB2 : Hid (Below w.heap.size w w2) := by
       show Below _ _ _
       rw [hw2]; exact below_setRow (HB.out.alloc HS.out _) HS.out _
     clear hw2))
  go_ret
  exact ⟨rfl, HB2.out⟩
set_option maxRecDepth 100000 in
set_option maxHeartbeats 4000000 in
theorem shape_M22 (l m h : Int) (w : World) (hF : FormIs 22 73 l m h) :
    Calls Tryz.prog 33 #[.int .i64 22] w fun e w' => e = .returned (.string ⟨#[100, 109]⟩) ∧ Below w.heap.size w w' := by
  have HF : Hid (FormIs 22 73 l m h) := hF
  clear hF
  go_enter Tryz.func33, Tryz.ntmps33
  go_wp2_with fail
  refine (HF.out _).mono ?_
  rintro e w1 ⟨⟨s, rfl⟩, hb⟩
  have HB : Hid (Below w.heap.size w w1) := hb
  have HS : Hid (w.heap.size ≤ w1.heap.size) := hb.size
  clear hb
  go_wp2_with (
    (refine wpList_store_row rfl 80 _ _ rfl _ 80 _ _ rfl rfl (heap_alloc_last _ _) (by kernel_rfl) rfl (one45 _ _ _ _ _) ?_
     obtain ⟨w2, hw2⟩ : ∃ w2, w2 = (w1.alloc (.cells zero45 80)).setRow w1.heap.size #[Value.int .u8 73, .int .u32 l, .int .u32 m, .int .u32 h, .string s] := ⟨_, rfl⟩
     rw [← hw2]
     have p0 : w2.cell? ⟨w1.heap.size, 0, none⟩ = some (.int .u8 73) := by
       have G1 : w2.heap[w1.heap.size]? = some (.cells #[Value.int .u8 73, .int .u32 l, .int .u32 m, .int .u32 h, .string s] 80) := by
         rw [hw2]; exact setRow_heap _ _ _ _ _ _ (heap_alloc_last _ _)
       rw [cell_of_row _ _ _ _ _ _ G1]; rfl
     have HB2 : Hid (Below w.heap.size w w2) := by
       show Below _ _ _
       rw [hw2]; exact below_setRow (HB.out.alloc HS.out _) HS.out _
     clear hw2))
  go_ret
  exact ⟨rfl, HB2.out⟩
set_option maxRecDepth 100000 in
set_option maxHeartbeats 4000000 in
theorem shape_M23 (l m h : Int) (w : World) (hF : FormIs 23 73 l m h) :
    Calls Tryz.prog 33 #[.int .i64 23] w fun e w' => e = .returned (.string ⟨#[100, 109]⟩) ∧ Below w.heap.size w w' := by
  have HF : Hid (FormIs 23 73 l m h) := hF
  clear hF
  go_enter Tryz.func33, Tryz.ntmps33
  go_wp2_with fail
  refine (HF.out _).mono ?_
  rintro e w1 ⟨⟨s, rfl⟩, hb⟩
  have HB : Hid (Below w.heap.size w w1) := hb
  have HS : Hid (w.heap.size ≤ w1.heap.size) := hb.size
  clear hb
  go_wp2_with (
    (refine wpList_store_row rfl 80 _ _ rfl _ 80 _ _ rfl rfl (heap_alloc_last _ _) (by kernel_rfl) rfl (one45 _ _ _ _ _) ?_
     obtain ⟨w2, hw2⟩ : ∃ w2, w2 = (w1.alloc (.cells zero45 80)).setRow w1.heap.size #[Value.int .u8 73, .int .u32 l, .int .u32 m, .int .u32 h, .string s] := ⟨_, rfl⟩
     rw [← hw2]
     have p0 : w2.cell? ⟨w1.heap.size, 0, none⟩ = some (.int .u8 73) := by
       have G1 : w2.heap[w1.heap.size]? = some (.cells #[Value.int .u8 73, .int .u32 l, .int .u32 m, .int .u32 h, .string s] 80) := by
         rw [hw2]; exact setRow_heap _ _ _ _ _ _ (heap_alloc_last _ _)
       rw [cell_of_row _ _ _ _ _ _ G1]; rfl
     have HB2 : Hid (Below w.heap.size w w2) := by
       show Below _ _ _
       rw [hw2]; exact below_setRow (HB.out.alloc HS.out _) HS.out _
     clear hw2))
  go_ret
  exact ⟨rfl, HB2.out⟩
set_option maxRecDepth 100000 in
set_option maxHeartbeats 4000000 in
theorem shape_out (o : Int) (w : World) (ho : o < 1 ∨ 31 < o) :
    Calls Tryz.prog 33 #[.int .i64 o] w fun e w' => e = .returned (.string ⟨#[]⟩) ∧ Below w.heap.size w w' := by
  have h2 : (o == 22) = false := by simp; omega
  have h3 : (o == 23) = false := by simp; omega
  have HF : Hid (o < 1 ∨ 31 < o) := ho
  clear ho
  go_enter Tryz.func33, Tryz.ntmps33
  go_wp2_with fail
  refine (formOf_out o HF.out _).mono ?_
  rintro e w1 ⟨rfl, hb⟩
  have HB : Hid (Below w.heap.size w w1) := hb
  have HS : Hid (w.heap.size ≤ w1.heap.size) := hb.size
  clear hb
  go_wp2_with (
    (refine wpList_store_row rfl 80 _ _ rfl _ 80 _ _ rfl rfl (heap_alloc_last _ _) (by kernel_rfl) rfl (one45 _ _ _ _ _) ?_
     obtain ⟨w2, hw2⟩ : ∃ w2, w2 = (w1.alloc (.cells zero45 80)).setRow w1.heap.size #[Value.int .u8 0, .int .u32 0, .int .u32 0, .int .u32 0, .string ⟨#[]⟩] := ⟨_, rfl⟩
     rw [← hw2]
     have p0 : w2.cell? ⟨w1.heap.size, 0, none⟩ = some (.int .u8 0) := by
       have G1 : w2.heap[w1.heap.size]? = some (.cells #[Value.int .u8 0, .int .u32 0, .int .u32 0, .int .u32 0, .string ⟨#[]⟩] 80) := by
         rw [hw2]; exact setRow_heap _ _ _ _ _ _ (heap_alloc_last _ _)
       rw [cell_of_row _ _ _ _ _ _ G1]; rfl
     have HB2 : Hid (Below w.heap.size w w2) := by
       show Below _ _ _
       rw [hw2]; exact below_setRow (HB.out.alloc HS.out _) HS.out _
     clear hw2))
  go_ret
  exact ⟨rfl, HB2.out⟩
/-- What the document's shape is, of an op's parts. -/
def shL (k : UInt8) : UInt8 := if k = 40 then 109 else if k = 58 then 116 else k
def shpV (o : Nat) : By := (opsL.getD o ([], [])).2.map shL
theorem shape_in (o : Nat) (h1 : 1 ≤ o) (h2 : o ≤ 31) (w : World) :
    Calls Tryz.prog 33 #[.int .i64 (o : Int)] w fun e w' => e = .returned (.string ⟨(shpV o).toArray⟩) ∧ Below w.heap.size w w' := by
  rcases lt32 h1 h2 with rfl | rfl | rfl | rfl | rfl | rfl | rfl | rfl | rfl | rfl | rfl | rfl | rfl | rfl | rfl | rfl | rfl | rfl | rfl | rfl | rfl | rfl | rfl | rfl | rfl | rfl | rfl | rfl | rfl | rfl | rfl
  · exact shape_R _ _ _ _ w formOf_1
  · exact shape_R _ _ _ _ w formOf_2
  · exact shape_R _ _ _ _ w formOf_3
  · exact shape_R _ _ _ _ w formOf_4
  · exact shape_R _ _ _ _ w formOf_5
  · exact shape_R _ _ _ _ w formOf_6
  · exact shape_R _ _ _ _ w formOf_7
  · exact shape_R _ _ _ _ w formOf_8
  · exact shape_R _ _ _ _ w formOf_9
  · exact shape_R _ _ _ _ w formOf_10
  · exact shape_R _ _ _ _ w formOf_11
  · exact shape_R _ _ _ _ w formOf_12
  · exact shape_R _ _ _ _ w formOf_13
  · exact shape_I _ _ _ _ w formOf_14 rfl rfl
  · exact shape_I _ _ _ _ w formOf_15 rfl rfl
  · exact shape_I _ _ _ _ w formOf_16 rfl rfl
  · exact shape_I _ _ _ _ w formOf_17 rfl rfl
  · exact shape_I _ _ _ _ w formOf_18 rfl rfl
  · exact shape_H _ _ _ _ w formOf_19 rfl rfl
  · exact shape_H _ _ _ _ w formOf_20 rfl rfl
  · exact shape_H _ _ _ _ w formOf_21 rfl rfl
  · exact shape_M22 _ _ _ w formOf_22
  · exact shape_M23 _ _ _ w formOf_23
  · exact shape_S _ _ _ _ w formOf_24 rfl rfl
  · exact shape_B _ _ _ _ w formOf_25 rfl rfl
  · exact shape_B _ _ _ _ w formOf_26 rfl rfl
  · exact shape_B _ _ _ _ w formOf_27 rfl rfl
  · exact shape_B _ _ _ _ w formOf_28 rfl rfl
  · exact shape_U _ _ _ _ w formOf_29 rfl rfl
  · exact shape_J _ _ _ _ w formOf_30 rfl rfl
  · exact shape_E _ _ _ _ w formOf_31 rfl rfl
theorem shape_doc (o : Int) (w : World) :
    Calls Tryz.prog 33 #[.int .i64 o] w fun e w' => e = .returned (.string ⟨(shpV o.toNat).toArray⟩) ∧ Below w.heap.size w w' := by
  by_cases h1 : 1 ≤ o
  · by_cases h2 : o ≤ 31
    · obtain ⟨k, rfl⟩ := Int.eq_ofNat_of_zero_le (show 0 ≤ o by omega)
      exact shape_in k (by omega) (by omega) w
    · have e : shpV o.toNat = [] := by
        unfold shpV
        rw [List.getD_eq_getElem?_getD, List.getElem?_eq_none (by show 32 ≤ _; omega)]
        rfl
      rw [e]
      exact shape_out o w (.inr (by omega))
  · have e : shpV o.toNat = [] := by
      have : o.toNat = 0 := by omega
      rw [this]
      rfl
    rw [e]
    exact shape_out o w (.inl (by omega))
end Go.Proofs.YtjjjdplgdlaihaaGreatDoor
