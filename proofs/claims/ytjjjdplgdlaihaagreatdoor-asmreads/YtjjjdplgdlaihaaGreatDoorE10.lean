/- Encode of the document's own answer, walked: the kinds without MID, and those without pieces. -/
import Derived.Test.YtjjjdplgdlaihaaGreatDoorE9
namespace Go.Proofs.YtjjjdplgdlaihaaGreatDoor
open Go Go.RowKit
set_option maxRecDepth 100000 in
set_option maxHeartbeats 8000000 in
theorem enc_R (o d a b n l m h z0 : Int) (hs : ByteArray) (w : World) (hF : FormAt o 82 l m h)
    (hR : ∀ w, Calls Tryz.prog 23 #[instV o d a b n] w fun e w' => e = .returned (.bool true) ∧ Below w.heap.size w w')
    (hH : ∀ w, Calls Tryz.prog 41 #[.int .u8 82] w fun e w' => e = .returned (.string hs) ∧ w' = w)
    (ha : ∀ p (h : p < hs.size), (hs[p]'h).toNat < 128) (hd : 0 ≤ d ∧ d < 32) (hra : 0 ≤ a ∧ a < 32) (hrb : 0 ≤ b ∧ b < 32)
    
    (hP : ∀ w, Calls Tryz.prog 42 #[.int .u8 82] w fun e w' => e = .returned (.slice none 0 0) ∧ w' = w)
    (hz0 : z0 = ((strV ((l + m * 4096) % 4294967296) d a b hs.data.toList + h * 33554432) % 4294967296)) :
    Calls Tryz.prog 14 #[instV o d a b n] w fun e w' => e = .returned (.tuple #[.int .u32 z0, .int .i64 0]) ∧ Below w.heap.size w w' := by
  go_enter Tryz.func14, Tryz.ntmps14
  go_wp2_with (go_at_call 23; fail)
  refine (hR _).mono ?_
  rintro e w0 ⟨rfl, hb0⟩
  have hb0' : Below (w.heap.size + 1) (w.alloc (.cells #[.int .i64 o, .int .i64 d, .int .i64 a, .int .i64 b, .int .i64 n] 39)) w0 := hb0.mono (by simp)
  have hsz0 := hb0'.size
  simp at hsz0
  have G : w0.heap[w.heap.size]? = some (.cells #[.int .i64 o, .int .i64 d, .int .i64 a, .int .i64 b, .int .i64 n] 39) := by
    rw [hb0'.block _ (by simp)]; exact heap_alloc_last w _
  have c0 : w0.cell? ⟨w.heap.size, 0, none⟩ = some (.int .i64 o) := by rw [cell_of_row _ _ _ _ _ _ G]; rfl
  have HB0 : Hid (Below w.heap.size w w0) := ((Below.refl _ _).alloc (Nat.le_refl _) _).trans (hb0'.mono (by omega))
  have HG : Hid (w0.heap[w.heap.size]? = some (.cells #[.int .i64 o, .int .i64 d, .int .i64 a, .int .i64 b, .int .i64 n] 39)) := G
  clear hb0 hb0' G
  go_wp2_with (go_at_call 32; fail)
  refine (hF _).mono ?_
  rintro e w1 ⟨⟨s, rfl⟩, hb⟩
  go_wp2_with (first
    | (refine wpList_store_row rfl 80 _ _ rfl _ 80 _ _ rfl rfl (heap_alloc_last _ _) (by kernel_rfl) rfl (one45 _ _ _ _ _) ?_
       obtain ⟨w2, hw2⟩ : ∃ w2, w2 = (w1.alloc (.cells zero45 80)).setRow w1.heap.size #[Value.int .u8 82, .int .u32 l, .int .u32 m, .int .u32 h, .string s] := ⟨_, rfl⟩
       rw [← hw2]
       have hsz := hb.size
       have hb2 : Below w0.heap.size w0 w2 := by
         rw [hw2]; exact below_setRow (hb.alloc (by omega) _) (by omega) _
       have G1 : w2.heap[w1.heap.size]? = some (.cells #[Value.int .u8 82, .int .u32 l, .int .u32 m, .int .u32 h, .string s] 80) := by
         rw [hw2]; exact setRow_heap _ _ _ _ _ _ (heap_alloc_last _ _)
       have G0 : w2.heap[w.heap.size]? = some (.cells #[.int .i64 o, .int .i64 d, .int .i64 a, .int .i64 b, .int .i64 n] 39) := by
         rw [hb2.block _ (by omega)]; exact HG.out
       have HB : Hid (Below w.heap.size w w2) := HB0.out.trans (hb2.mono (by omega))
       clear hb2 hb hw2
       have p0 : w2.cell? ⟨w1.heap.size, 0, none⟩ = some (.int .u8 82) := by rw [cell_of_row _ _ _ _ _ _ G1]; rfl
       have p1 : w2.cell? ⟨w1.heap.size, 1, none⟩ = some (.int .u32 l) := by rw [cell_of_row _ _ _ _ _ _ G1]; rfl
       have p2 : w2.cell? ⟨w1.heap.size, 2, none⟩ = some (.int .u32 m) := by rw [cell_of_row _ _ _ _ _ _ G1]; rfl
       have L0 : w.heap.size < w2.heap.size := (Array.getElem?_eq_some_iff.mp G0).1
       have L1 : w1.heap.size < w2.heap.size := (Array.getElem?_eq_some_iff.mp G1).1
       have HG0 : Hid (w2.heap[w.heap.size]? = some (.cells #[.int .i64 o, .int .i64 d, .int .i64 a, .int .i64 b, .int .i64 n] 39)) := G0
       have HG1 : Hid (w2.heap[w1.heap.size]? = some (.cells #[Value.int .u8 82, .int .u32 l, .int .u32 m, .int .u32 h, .string s] 80)) := G1
       clear G0 G1)
    | (go_at_call 41; refine (hH _).mono ?_; rintro e w2 ⟨rfl, rfl⟩))
  go_loopw [6] (fun z wr => ∃ (k : Nat) (y : Int), k ≤ hs.size ∧ z = .int .u32 y ∧ Hid (y = strV ((l + m * 4096) % 4294967296) d a b (hs.data.toList.take k)) ∧ wr = w2.iter hs k) (fun _ wr => hs.size - iterPos wr w2.heap.size)
  case atStart => exact ⟨0, _, by omega, rfl, rfl, rfl⟩
  case round =>
    obtain ⟨k, y, hk, rfl, HY, rfl⟩ := hrel
    by_cases hi : k < hs.size
    · have hnx := fun ty => run_next_ascii (P := Tryz.prog) w2 hs k ty hi (ha k hi)
      have r1 : (w2.iter hs (k + 1)).cell? ⟨w.heap.size, 1, none⟩ = some (.int .i64 d) := by rw [iter_cell _ _ _ _ _ _ _ HG0.out, cell_of_row _ _ _ _ _ _ HG0.out]; rfl
      have r2 : (w2.iter hs (k + 1)).cell? ⟨w.heap.size, 2, none⟩ = some (.int .i64 a) := by rw [iter_cell _ _ _ _ _ _ _ HG0.out, cell_of_row _ _ _ _ _ _ HG0.out]; rfl
      have r3 : (w2.iter hs (k + 1)).cell? ⟨w.heap.size, 3, none⟩ = some (.int .i64 b) := by rw [iter_cell _ _ _ _ _ _ _ HG0.out, cell_of_row _ _ _ _ _ _ HG0.out]; rfl
      have HS := strV_step ((l + m * 4096) % 4294967296) d a b hs k hi
      have HS' : Hid (strV ((l + m * 4096) % 4294967296) d a b (hs.data.toList.take (k + 1)) = (y + chV d a b (hs[k]'hi).toNat) % 4294967296) := by
        show _ = _
        rw [HS, HY.out]
      clear HS
      by_cases h100 : (hs[k]'hi).toNat = 100
      · have hq : (((hs[k]'hi).toNat : Int) == 100) = true := by simp [h100]
        have HV : Hid (strV ((l + m * 4096) % 4294967296) d a b (hs.data.toList.take (k + 1)) = (y + d * 128) % 4294967296) := by
          show _ = _
          rw [HS'.out, chV, if_pos h100]
        clear h100
        go_wp2
        exact ⟨⟨k + 1, _, by omega, rfl, HV.out.symm, rfl⟩, by rw [iterPos_iter, iterPos_iter]; omega⟩
      · have hq : (((hs[k]'hi).toNat : Int) == 100) = false := by simp; omega
        by_cases h97 : (hs[k]'hi).toNat = 97
        · have hq' : (((hs[k]'hi).toNat : Int) == 97) = true := by simp [h97]
          have HV : Hid (strV ((l + m * 4096) % 4294967296) d a b (hs.data.toList.take (k + 1)) = (y + a * 32768) % 4294967296) := by
            show _ = _
            rw [HS'.out, chV, if_neg h100, if_pos h97]
          clear h97 h100
          go_wp2
          exact ⟨⟨k + 1, _, by omega, rfl, HV.out.symm, rfl⟩, by rw [iterPos_iter, iterPos_iter]; omega⟩
        · have hq' : (((hs[k]'hi).toNat : Int) == 97) = false := by simp; omega
          have HV : Hid (strV ((l + m * 4096) % 4294967296) d a b (hs.data.toList.take (k + 1)) = (y + b * 1048576) % 4294967296) := by
            show _ = _
            rw [HS'.out, chV, if_neg h100, if_neg h97]
          clear h97 h100
          go_wp2
          exact ⟨⟨k + 1, _, by omega, rfl, HV.out.symm, rfl⟩, by rw [iterPos_iter, iterPos_iter]; omega⟩
    · have hnx := fun ty => run_next_end (P := Tryz.prog) w2 hs k ty hi
      have r0 : (w2.iter hs k).cell? ⟨w1.heap.size, 0, none⟩ = some (.int .u8 82) := by rw [iter_cell _ _ _ _ _ _ _ HG1.out, cell_of_row _ _ _ _ _ _ HG1.out]; rfl
      have r3 : (w2.iter hs k).cell? ⟨w1.heap.size, 3, none⟩ = some (.int .u32 h) := by rw [iter_cell _ _ _ _ _ _ _ HG1.out, cell_of_row _ _ _ _ _ _ HG1.out]; rfl
      go_wp2_with (go_at_call 42; refine (hP _).mono ?_; rintro e w4 ⟨rfl, hw4'⟩; have hw4 : Hid (w4 = w2.iter hs k) := hw4'; clear hw4')
      have HB4 : Hid (Below w.heap.size w w4) := by
        show Below _ _ _
        rw [hw4.out]; exact HB.out.trans (((Below.refl _ _).alloc (Nat.le_refl _) _).mono (by omega))
      obtain ⟨y0, hy0⟩ : ∃ y0, y0 = (y + h * 33554432) % 4294967296 := ⟨_, rfl⟩
      rw [← hy0]
      have HE : Hid (z0 = y0) := by
        show _ = _
        rw [hz0, hy0, HY.out, List.take_of_length_le (by simp; omega)]
      clear hy0 hz0 hw4 r0 r3 hnx
      go_loopw [6, 80] (fun z i wr => z = .int .u32 y0 ∧ i = .int .i64 0 ∧ wr = w4) (fun _ _ _ => 0)
      case atStart => exact ⟨rfl, rfl, rfl⟩
      case round =>
        obtain ⟨rfl, rfl, rfl⟩ := hrel
        go_wp2_with fail
        go_ret2
        have hv := HE.out
        subst hv
        exact ⟨rfl, HB4.out⟩
set_option maxRecDepth 100000 in
set_option maxHeartbeats 8000000 in
theorem enc_U (o d a b n l m h z0 : Int) (hs : ByteArray) (w : World) (hF : FormAt o 85 l m h)
    (hR : ∀ w, Calls Tryz.prog 23 #[instV o d a b n] w fun e w' => e = .returned (.bool true) ∧ Below w.heap.size w w')
    (hH : ∀ w, Calls Tryz.prog 41 #[.int .u8 85] w fun e w' => e = .returned (.string hs) ∧ w' = w)
    (ha : ∀ p (h : p < hs.size), (hs[p]'h).toNat < 128) (hd : 0 ≤ d ∧ d < 32) (hra : 0 ≤ a ∧ a < 32) (hrb : 0 ≤ b ∧ b < 32)
    (np : Nat) (hnp : np ≤ 4) (cs : Array Value) (F C T : Nat → Nat)
    (hP : ∀ w, Calls Tryz.prog 42 #[.int .u8 85] w fun e w' => e = .returned (.slice (some ⟨w.heap.size, 0, none⟩) np np) ∧ w' = w.alloc (.cells cs 97))
    (hcs : ∀ j, j < np → cs[j * 3]? = some (.int .i64 (F j)) ∧ cs[j * 3 + 1]? = some (.int .i64 (C j)) ∧ cs[j * 3 + 2]? = some (.int .i64 (T j)))
    (hfc : ∀ j, j < np → F j ≤ 20 ∧ C j ≤ 20 ∧ T j ≤ 31 ∧ T j + C j ≤ 32)
    (hz0 : z0 = psum n F C T ((strV (l) d a b hs.data.toList + h * 33554432) % 4294967296) np) :
    Calls Tryz.prog 14 #[instV o d a b n] w fun e w' => e = .returned (.tuple #[.int .u32 z0, .int .i64 0]) ∧ Below w.heap.size w w' := by
  go_enter Tryz.func14, Tryz.ntmps14
  go_wp2_with (go_at_call 23; fail)
  refine (hR _).mono ?_
  rintro e w0 ⟨rfl, hb0⟩
  have hb0' : Below (w.heap.size + 1) (w.alloc (.cells #[.int .i64 o, .int .i64 d, .int .i64 a, .int .i64 b, .int .i64 n] 39)) w0 := hb0.mono (by simp)
  have hsz0 := hb0'.size
  simp at hsz0
  have G : w0.heap[w.heap.size]? = some (.cells #[.int .i64 o, .int .i64 d, .int .i64 a, .int .i64 b, .int .i64 n] 39) := by
    rw [hb0'.block _ (by simp)]; exact heap_alloc_last w _
  have c0 : w0.cell? ⟨w.heap.size, 0, none⟩ = some (.int .i64 o) := by rw [cell_of_row _ _ _ _ _ _ G]; rfl
  have HB0 : Hid (Below w.heap.size w w0) := ((Below.refl _ _).alloc (Nat.le_refl _) _).trans (hb0'.mono (by omega))
  have HG : Hid (w0.heap[w.heap.size]? = some (.cells #[.int .i64 o, .int .i64 d, .int .i64 a, .int .i64 b, .int .i64 n] 39)) := G
  clear hb0 hb0' G
  go_wp2_with (go_at_call 32; fail)
  refine (hF _).mono ?_
  rintro e w1 ⟨⟨s, rfl⟩, hb⟩
  go_wp2_with (first
    | (refine wpList_store_row rfl 80 _ _ rfl _ 80 _ _ rfl rfl (heap_alloc_last _ _) (by kernel_rfl) rfl (one45 _ _ _ _ _) ?_
       obtain ⟨w2, hw2⟩ : ∃ w2, w2 = (w1.alloc (.cells zero45 80)).setRow w1.heap.size #[Value.int .u8 85, .int .u32 l, .int .u32 m, .int .u32 h, .string s] := ⟨_, rfl⟩
       rw [← hw2]
       have hsz := hb.size
       have hb2 : Below w0.heap.size w0 w2 := by
         rw [hw2]; exact below_setRow (hb.alloc (by omega) _) (by omega) _
       have G1 : w2.heap[w1.heap.size]? = some (.cells #[Value.int .u8 85, .int .u32 l, .int .u32 m, .int .u32 h, .string s] 80) := by
         rw [hw2]; exact setRow_heap _ _ _ _ _ _ (heap_alloc_last _ _)
       have G0 : w2.heap[w.heap.size]? = some (.cells #[.int .i64 o, .int .i64 d, .int .i64 a, .int .i64 b, .int .i64 n] 39) := by
         rw [hb2.block _ (by omega)]; exact HG.out
       have HB : Hid (Below w.heap.size w w2) := HB0.out.trans (hb2.mono (by omega))
       clear hb2 hb hw2
       have p0 : w2.cell? ⟨w1.heap.size, 0, none⟩ = some (.int .u8 85) := by rw [cell_of_row _ _ _ _ _ _ G1]; rfl
       have p1 : w2.cell? ⟨w1.heap.size, 1, none⟩ = some (.int .u32 l) := by rw [cell_of_row _ _ _ _ _ _ G1]; rfl
       have p2 : w2.cell? ⟨w1.heap.size, 2, none⟩ = some (.int .u32 m) := by rw [cell_of_row _ _ _ _ _ _ G1]; rfl
       have L0 : w.heap.size < w2.heap.size := (Array.getElem?_eq_some_iff.mp G0).1
       have L1 : w1.heap.size < w2.heap.size := (Array.getElem?_eq_some_iff.mp G1).1
       have HG0 : Hid (w2.heap[w.heap.size]? = some (.cells #[.int .i64 o, .int .i64 d, .int .i64 a, .int .i64 b, .int .i64 n] 39)) := G0
       have HG1 : Hid (w2.heap[w1.heap.size]? = some (.cells #[Value.int .u8 85, .int .u32 l, .int .u32 m, .int .u32 h, .string s] 80)) := G1
       clear G0 G1)
    | (go_at_call 41; refine (hH _).mono ?_; rintro e w2 ⟨rfl, rfl⟩))
  go_loopw [6] (fun z wr => ∃ (k : Nat) (y : Int), k ≤ hs.size ∧ z = .int .u32 y ∧ Hid (y = strV (l) d a b (hs.data.toList.take k)) ∧ wr = w2.iter hs k) (fun _ wr => hs.size - iterPos wr w2.heap.size)
  case atStart => exact ⟨0, _, by omega, rfl, rfl, rfl⟩
  case round =>
    obtain ⟨k, y, hk, rfl, HY, rfl⟩ := hrel
    by_cases hi : k < hs.size
    · have hnx := fun ty => run_next_ascii (P := Tryz.prog) w2 hs k ty hi (ha k hi)
      have r1 : (w2.iter hs (k + 1)).cell? ⟨w.heap.size, 1, none⟩ = some (.int .i64 d) := by rw [iter_cell _ _ _ _ _ _ _ HG0.out, cell_of_row _ _ _ _ _ _ HG0.out]; rfl
      have r2 : (w2.iter hs (k + 1)).cell? ⟨w.heap.size, 2, none⟩ = some (.int .i64 a) := by rw [iter_cell _ _ _ _ _ _ _ HG0.out, cell_of_row _ _ _ _ _ _ HG0.out]; rfl
      have r3 : (w2.iter hs (k + 1)).cell? ⟨w.heap.size, 3, none⟩ = some (.int .i64 b) := by rw [iter_cell _ _ _ _ _ _ _ HG0.out, cell_of_row _ _ _ _ _ _ HG0.out]; rfl
      have HS := strV_step (l) d a b hs k hi
      have HS' : Hid (strV (l) d a b (hs.data.toList.take (k + 1)) = (y + chV d a b (hs[k]'hi).toNat) % 4294967296) := by
        show _ = _
        rw [HS, HY.out]
      clear HS
      by_cases h100 : (hs[k]'hi).toNat = 100
      · have hq : (((hs[k]'hi).toNat : Int) == 100) = true := by simp [h100]
        have HV : Hid (strV (l) d a b (hs.data.toList.take (k + 1)) = (y + d * 128) % 4294967296) := by
          show _ = _
          rw [HS'.out, chV, if_pos h100]
        clear h100
        go_wp2
        exact ⟨⟨k + 1, _, by omega, rfl, HV.out.symm, rfl⟩, by rw [iterPos_iter, iterPos_iter]; omega⟩
      · have hq : (((hs[k]'hi).toNat : Int) == 100) = false := by simp; omega
        by_cases h97 : (hs[k]'hi).toNat = 97
        · have hq' : (((hs[k]'hi).toNat : Int) == 97) = true := by simp [h97]
          have HV : Hid (strV (l) d a b (hs.data.toList.take (k + 1)) = (y + a * 32768) % 4294967296) := by
            show _ = _
            rw [HS'.out, chV, if_neg h100, if_pos h97]
          clear h97 h100
          go_wp2
          exact ⟨⟨k + 1, _, by omega, rfl, HV.out.symm, rfl⟩, by rw [iterPos_iter, iterPos_iter]; omega⟩
        · have hq' : (((hs[k]'hi).toNat : Int) == 97) = false := by simp; omega
          have HV : Hid (strV (l) d a b (hs.data.toList.take (k + 1)) = (y + b * 1048576) % 4294967296) := by
            show _ = _
            rw [HS'.out, chV, if_neg h100, if_neg h97]
          clear h97 h100
          go_wp2
          exact ⟨⟨k + 1, _, by omega, rfl, HV.out.symm, rfl⟩, by rw [iterPos_iter, iterPos_iter]; omega⟩
    · have hnx := fun ty => run_next_end (P := Tryz.prog) w2 hs k ty hi
      have r0 : (w2.iter hs k).cell? ⟨w1.heap.size, 0, none⟩ = some (.int .u8 85) := by rw [iter_cell _ _ _ _ _ _ _ HG1.out, cell_of_row _ _ _ _ _ _ HG1.out]; rfl
      have r3 : (w2.iter hs k).cell? ⟨w1.heap.size, 3, none⟩ = some (.int .u32 h) := by rw [iter_cell _ _ _ _ _ _ _ HG1.out, cell_of_row _ _ _ _ _ _ HG1.out]; rfl
      go_wp2_with (go_at_call 42; refine (hP _).mono ?_; rintro e w4 ⟨rfl, hw4'⟩; have hw4 : Hid (w4 = (w2.iter hs k).alloc (.cells cs 97)) := hw4'; clear hw4')
      have hB4 : Below w2.heap.size w2 w4 := by rw [hw4.out]; exact (((Below.refl _ _).alloc (Nat.le_refl _) _).alloc (by simp) _)
      have hz4 : (w2.iter hs k).heap.size = w2.heap.size + 1 := by simp [World.iter]
      have G4 : w4.heap[w2.heap.size + 1]? = some (.cells cs 97) := by rw [hw4.out, ← hz4]; exact heap_alloc_last _ _
      rw [hz4]
      have GX : Hid (w4.heap[w.heap.size]? = some (.cells #[.int .i64 o, .int .i64 d, .int .i64 a, .int .i64 b, .int .i64 n] 39)) := by
        show _ = _
        rw [hB4.block _ L0]; exact HG0.out
      have HB4 : Hid (Below w.heap.size w w4) := HB.out.trans (hB4.mono (by omega))
      have HZ : w2.heap.size + 1 < w4.heap.size := (Array.getElem?_eq_some_iff.mp G4).1
      have HG4 : Hid (w4.heap[w2.heap.size + 1]? = some (.cells cs 97)) := G4
      clear hw4 hB4 hz4 G4 r0 r3 hnx
      obtain ⟨y0, hy0⟩ : ∃ y0, y0 = (y + h * 33554432) % 4294967296 := ⟨_, rfl⟩
      rw [← hy0]
      have HM : Hid (y0 % 4294967296 = y0) := by
        show _ = _
        rw [hy0]; omega
      have HE : Hid (z0 = psum n F C T y0 np) := by
        show _ = _
        rw [hz0, hy0, HY.out, List.take_of_length_le (by simp; omega)]
      clear hy0 hz0
      go_loopw [6, 80] (fun z i wr => ∃ (j : Nat) (y : Int), j ≤ np ∧ z = .int .u32 y ∧ i = .int .i64 j ∧ Hid (y = psum n F C T y0 j) ∧ Hid (Below w4.heap.size w4 wr)) (fun _ i _ => np - (intOf i).toNat)
      case atStart => exact ⟨0, _, by omega, rfl, rfl, rfl, Below.refl _ _⟩
      case round =>
        obtain ⟨j, y1, hj, rfl, rfl, HY1, HW⟩ := hrel
        by_cases hjn : j < np
        · obtain ⟨e0, e1, e2⟩ := hcs j hjn
          have GW : wr.heap[w2.heap.size + 1]? = some (.cells cs 97) := by rw [HW.out.block _ HZ]; exact HG4.out
          have u0 : wr.cell? ⟨w2.heap.size + 1, j * 3, none⟩ = some (.int .i64 (F j)) := by rw [cell_of_row _ _ _ _ _ _ GW]; exact e0
          have u1 : wr.cell? ⟨w2.heap.size + 1, j * 3 + 1, none⟩ = some (.int .i64 (C j)) := by rw [cell_of_row _ _ _ _ _ _ GW]; exact e1
          have u2 : wr.cell? ⟨w2.heap.size + 1, j * 3 + 2, none⟩ = some (.int .i64 (T j)) := by rw [cell_of_row _ _ _ _ _ _ GW]; exact e2
          clear e0 e1 e2 GW
          have hzw := HW.out.size
          have qn : (wr.alloc (.cells #[.int .i64 (F j), .int .i64 (C j), .int .i64 (T j)] 97)).cell? ⟨w.heap.size, 4, none⟩ = some (.int .i64 n) := by
            rw [(HW.out.alloc (by omega) _).cell (p := ⟨w.heap.size, 4, none⟩) (by show w.heap.size < _; omega), cell_of_row _ _ _ _ _ _ GX.out]; rfl
          have hfj := hfc j hjn
          have HI : Hid (y1 = (y1 + n / (2 : Int) ^ F j % (2 : Int) ^ 0 * (2 : Int) ^ T j) % 4294967296) := by
            show _ = _
            have e := psum_mod n F C T y0 HM.out j
            rw [← HY1.out] at e
            simp [Int.emod_one, e]
          go_wp2_with fail
          go_loopw [6, 86] (fun z i wv => ∃ (q : Nat) (y : Int), q ≤ C j ∧ z = .int .u32 y ∧ i = .int .i64 q ∧ Hid (y = (y1 + n / (2 : Int) ^ F j % (2 : Int) ^ q * (2 : Int) ^ T j) % 4294967296) ∧ wv = wr.alloc (.cells #[.int .i64 (F j), .int .i64 (C j), .int .i64 (T j)] 97)) (fun _ i _ => C j - (intOf i).toNat)
          case atStart => exact ⟨0, _, by omega, rfl, rfl, HI, rfl⟩
          case round =>
            obtain ⟨q, y2, hq, rfl, rfl, HY2, rfl⟩ := hrel
            by_cases hqc : q < C j
            · have HSt : Hid ((y1 + n / (2 : Int) ^ F j % (2 : Int) ^ (q + 1) * (2 : Int) ^ T j) % 4294967296 = (y2 + n / (2 : Int) ^ (F j + q) % 2 * (2 : Int) ^ (T j + q)) % 4294967296) := by
                show _ = _
                rw [HY2.out, Int.emod_add_emod, bit_step, Int.add_mul, Int.add_assoc, Int.mul_assoc, ← Int.pow_add, Nat.add_comm q (T j)]
              cases hbt : (bits .and .i64 (n / 2 ^ (F j + q)) 1 == 1) with
              | false =>
                have HV : Hid (y2 = (y1 + n / (2 : Int) ^ F j % (2 : Int) ^ (q + 1) * (2 : Int) ^ T j) % 4294967296) := by
                  show _ = _
                  rw [and1] at hbt
                  have hb0 : n / (2 : Int) ^ (F j + q) % 2 = 0 := by
                    have : ¬ n / (2 : Int) ^ (F j + q) % 2 = 1 := by simpa using hbt
                    omega
                  rw [HSt.out, hb0, HY2.out]
                  simp
                go_wp2_with fail
                exact ⟨⟨q + 1, _, by omega, rfl, by simp, HV, trivial⟩, by simp [intOf]; omega⟩
              | true =>
                have HV : Hid ((y2 + (2 : Int) ^ (T j + q) % 4294967296) % 4294967296 = (y1 + n / (2 : Int) ^ F j % (2 : Int) ^ (q + 1) * (2 : Int) ^ T j) % 4294967296) := by
                  show _ = _
                  rw [and1] at hbt
                  have hb0 : n / (2 : Int) ^ (F j + q) % 2 = 1 := by simpa using hbt
                  rw [HSt.out, hb0, Int.one_mul]
                  generalize (2 : Int) ^ (T j + q) = p
                  omega
                go_wp2_with fail
                exact ⟨⟨q + 1, _, by omega, rfl, by simp, HV, trivial⟩, by simp [intOf]; omega⟩
            · have HV : Hid (y2 = psum n F C T y0 (j + 1)) := by
                show _ = _
                rw [HY2.out, HY1.out, show q = C j by omega]; rfl
              go_wp2_with fail
              exact ⟨⟨j + 1, _, by omega, rfl, by simp, HV, HW.out.alloc hzw _⟩, by simp [intOf]; omega⟩
        · have HV : Hid (y1 = z0) := by
            show _ = _
            rw [HY1.out, HE.out, show j = np by omega]
          go_wp2_with fail
          go_ret2
          have hv := HV.out
          subst hv
          exact ⟨rfl, HB4.out.trans (HW.out.mono (by omega))⟩
set_option maxRecDepth 100000 in
set_option maxHeartbeats 8000000 in
theorem enc_J (o d a b n l m h z0 : Int) (hs : ByteArray) (w : World) (hF : FormAt o 74 l m h)
    (hR : ∀ w, Calls Tryz.prog 23 #[instV o d a b n] w fun e w' => e = .returned (.bool true) ∧ Below w.heap.size w w')
    (hH : ∀ w, Calls Tryz.prog 41 #[.int .u8 74] w fun e w' => e = .returned (.string hs) ∧ w' = w)
    (ha : ∀ p (h : p < hs.size), (hs[p]'h).toNat < 128) (hd : 0 ≤ d ∧ d < 32) (hra : 0 ≤ a ∧ a < 32) (hrb : 0 ≤ b ∧ b < 32)
    (np : Nat) (hnp : np ≤ 4) (cs : Array Value) (F C T : Nat → Nat)
    (hP : ∀ w, Calls Tryz.prog 42 #[.int .u8 74] w fun e w' => e = .returned (.slice (some ⟨w.heap.size, 0, none⟩) np np) ∧ w' = w.alloc (.cells cs 97))
    (hcs : ∀ j, j < np → cs[j * 3]? = some (.int .i64 (F j)) ∧ cs[j * 3 + 1]? = some (.int .i64 (C j)) ∧ cs[j * 3 + 2]? = some (.int .i64 (T j)))
    (hfc : ∀ j, j < np → F j ≤ 20 ∧ C j ≤ 20 ∧ T j ≤ 31 ∧ T j + C j ≤ 32)
    (hz0 : z0 = psum n F C T ((strV (l) d a b hs.data.toList + h * 33554432) % 4294967296) np) :
    Calls Tryz.prog 14 #[instV o d a b n] w fun e w' => e = .returned (.tuple #[.int .u32 z0, .int .i64 0]) ∧ Below w.heap.size w w' := by
  go_enter Tryz.func14, Tryz.ntmps14
  go_wp2_with (go_at_call 23; fail)
  refine (hR _).mono ?_
  rintro e w0 ⟨rfl, hb0⟩
  have hb0' : Below (w.heap.size + 1) (w.alloc (.cells #[.int .i64 o, .int .i64 d, .int .i64 a, .int .i64 b, .int .i64 n] 39)) w0 := hb0.mono (by simp)
  have hsz0 := hb0'.size
  simp at hsz0
  have G : w0.heap[w.heap.size]? = some (.cells #[.int .i64 o, .int .i64 d, .int .i64 a, .int .i64 b, .int .i64 n] 39) := by
    rw [hb0'.block _ (by simp)]; exact heap_alloc_last w _
  have c0 : w0.cell? ⟨w.heap.size, 0, none⟩ = some (.int .i64 o) := by rw [cell_of_row _ _ _ _ _ _ G]; rfl
  have HB0 : Hid (Below w.heap.size w w0) := ((Below.refl _ _).alloc (Nat.le_refl _) _).trans (hb0'.mono (by omega))
  have HG : Hid (w0.heap[w.heap.size]? = some (.cells #[.int .i64 o, .int .i64 d, .int .i64 a, .int .i64 b, .int .i64 n] 39)) := G
  clear hb0 hb0' G
  go_wp2_with (go_at_call 32; fail)
  refine (hF _).mono ?_
  rintro e w1 ⟨⟨s, rfl⟩, hb⟩
  go_wp2_with (first
    | (refine wpList_store_row rfl 80 _ _ rfl _ 80 _ _ rfl rfl (heap_alloc_last _ _) (by kernel_rfl) rfl (one45 _ _ _ _ _) ?_
       obtain ⟨w2, hw2⟩ : ∃ w2, w2 = (w1.alloc (.cells zero45 80)).setRow w1.heap.size #[Value.int .u8 74, .int .u32 l, .int .u32 m, .int .u32 h, .string s] := ⟨_, rfl⟩
       rw [← hw2]
       have hsz := hb.size
       have hb2 : Below w0.heap.size w0 w2 := by
         rw [hw2]; exact below_setRow (hb.alloc (by omega) _) (by omega) _
       have G1 : w2.heap[w1.heap.size]? = some (.cells #[Value.int .u8 74, .int .u32 l, .int .u32 m, .int .u32 h, .string s] 80) := by
         rw [hw2]; exact setRow_heap _ _ _ _ _ _ (heap_alloc_last _ _)
       have G0 : w2.heap[w.heap.size]? = some (.cells #[.int .i64 o, .int .i64 d, .int .i64 a, .int .i64 b, .int .i64 n] 39) := by
         rw [hb2.block _ (by omega)]; exact HG.out
       have HB : Hid (Below w.heap.size w w2) := HB0.out.trans (hb2.mono (by omega))
       clear hb2 hb hw2
       have p0 : w2.cell? ⟨w1.heap.size, 0, none⟩ = some (.int .u8 74) := by rw [cell_of_row _ _ _ _ _ _ G1]; rfl
       have p1 : w2.cell? ⟨w1.heap.size, 1, none⟩ = some (.int .u32 l) := by rw [cell_of_row _ _ _ _ _ _ G1]; rfl
       have p2 : w2.cell? ⟨w1.heap.size, 2, none⟩ = some (.int .u32 m) := by rw [cell_of_row _ _ _ _ _ _ G1]; rfl
       have L0 : w.heap.size < w2.heap.size := (Array.getElem?_eq_some_iff.mp G0).1
       have L1 : w1.heap.size < w2.heap.size := (Array.getElem?_eq_some_iff.mp G1).1
       have HG0 : Hid (w2.heap[w.heap.size]? = some (.cells #[.int .i64 o, .int .i64 d, .int .i64 a, .int .i64 b, .int .i64 n] 39)) := G0
       have HG1 : Hid (w2.heap[w1.heap.size]? = some (.cells #[Value.int .u8 74, .int .u32 l, .int .u32 m, .int .u32 h, .string s] 80)) := G1
       clear G0 G1)
    | (go_at_call 41; refine (hH _).mono ?_; rintro e w2 ⟨rfl, rfl⟩))
  go_loopw [6] (fun z wr => ∃ (k : Nat) (y : Int), k ≤ hs.size ∧ z = .int .u32 y ∧ Hid (y = strV (l) d a b (hs.data.toList.take k)) ∧ wr = w2.iter hs k) (fun _ wr => hs.size - iterPos wr w2.heap.size)
  case atStart => exact ⟨0, _, by omega, rfl, rfl, rfl⟩
  case round =>
    obtain ⟨k, y, hk, rfl, HY, rfl⟩ := hrel
    by_cases hi : k < hs.size
    · have hnx := fun ty => run_next_ascii (P := Tryz.prog) w2 hs k ty hi (ha k hi)
      have r1 : (w2.iter hs (k + 1)).cell? ⟨w.heap.size, 1, none⟩ = some (.int .i64 d) := by rw [iter_cell _ _ _ _ _ _ _ HG0.out, cell_of_row _ _ _ _ _ _ HG0.out]; rfl
      have r2 : (w2.iter hs (k + 1)).cell? ⟨w.heap.size, 2, none⟩ = some (.int .i64 a) := by rw [iter_cell _ _ _ _ _ _ _ HG0.out, cell_of_row _ _ _ _ _ _ HG0.out]; rfl
      have r3 : (w2.iter hs (k + 1)).cell? ⟨w.heap.size, 3, none⟩ = some (.int .i64 b) := by rw [iter_cell _ _ _ _ _ _ _ HG0.out, cell_of_row _ _ _ _ _ _ HG0.out]; rfl
      have HS := strV_step (l) d a b hs k hi
      have HS' : Hid (strV (l) d a b (hs.data.toList.take (k + 1)) = (y + chV d a b (hs[k]'hi).toNat) % 4294967296) := by
        show _ = _
        rw [HS, HY.out]
      clear HS
      by_cases h100 : (hs[k]'hi).toNat = 100
      · have hq : (((hs[k]'hi).toNat : Int) == 100) = true := by simp [h100]
        have HV : Hid (strV (l) d a b (hs.data.toList.take (k + 1)) = (y + d * 128) % 4294967296) := by
          show _ = _
          rw [HS'.out, chV, if_pos h100]
        clear h100
        go_wp2
        exact ⟨⟨k + 1, _, by omega, rfl, HV.out.symm, rfl⟩, by rw [iterPos_iter, iterPos_iter]; omega⟩
      · have hq : (((hs[k]'hi).toNat : Int) == 100) = false := by simp; omega
        by_cases h97 : (hs[k]'hi).toNat = 97
        · have hq' : (((hs[k]'hi).toNat : Int) == 97) = true := by simp [h97]
          have HV : Hid (strV (l) d a b (hs.data.toList.take (k + 1)) = (y + a * 32768) % 4294967296) := by
            show _ = _
            rw [HS'.out, chV, if_neg h100, if_pos h97]
          clear h97 h100
          go_wp2
          exact ⟨⟨k + 1, _, by omega, rfl, HV.out.symm, rfl⟩, by rw [iterPos_iter, iterPos_iter]; omega⟩
        · have hq' : (((hs[k]'hi).toNat : Int) == 97) = false := by simp; omega
          have HV : Hid (strV (l) d a b (hs.data.toList.take (k + 1)) = (y + b * 1048576) % 4294967296) := by
            show _ = _
            rw [HS'.out, chV, if_neg h100, if_neg h97]
          clear h97 h100
          go_wp2
          exact ⟨⟨k + 1, _, by omega, rfl, HV.out.symm, rfl⟩, by rw [iterPos_iter, iterPos_iter]; omega⟩
    · have hnx := fun ty => run_next_end (P := Tryz.prog) w2 hs k ty hi
      have r0 : (w2.iter hs k).cell? ⟨w1.heap.size, 0, none⟩ = some (.int .u8 74) := by rw [iter_cell _ _ _ _ _ _ _ HG1.out, cell_of_row _ _ _ _ _ _ HG1.out]; rfl
      have r3 : (w2.iter hs k).cell? ⟨w1.heap.size, 3, none⟩ = some (.int .u32 h) := by rw [iter_cell _ _ _ _ _ _ _ HG1.out, cell_of_row _ _ _ _ _ _ HG1.out]; rfl
      go_wp2_with (go_at_call 42; refine (hP _).mono ?_; rintro e w4 ⟨rfl, hw4'⟩; have hw4 : Hid (w4 = (w2.iter hs k).alloc (.cells cs 97)) := hw4'; clear hw4')
      have hB4 : Below w2.heap.size w2 w4 := by rw [hw4.out]; exact (((Below.refl _ _).alloc (Nat.le_refl _) _).alloc (by simp) _)
      have hz4 : (w2.iter hs k).heap.size = w2.heap.size + 1 := by simp [World.iter]
      have G4 : w4.heap[w2.heap.size + 1]? = some (.cells cs 97) := by rw [hw4.out, ← hz4]; exact heap_alloc_last _ _
      rw [hz4]
      have GX : Hid (w4.heap[w.heap.size]? = some (.cells #[.int .i64 o, .int .i64 d, .int .i64 a, .int .i64 b, .int .i64 n] 39)) := by
        show _ = _
        rw [hB4.block _ L0]; exact HG0.out
      have HB4 : Hid (Below w.heap.size w w4) := HB.out.trans (hB4.mono (by omega))
      have HZ : w2.heap.size + 1 < w4.heap.size := (Array.getElem?_eq_some_iff.mp G4).1
      have HG4 : Hid (w4.heap[w2.heap.size + 1]? = some (.cells cs 97)) := G4
      clear hw4 hB4 hz4 G4 r0 r3 hnx
      obtain ⟨y0, hy0⟩ : ∃ y0, y0 = (y + h * 33554432) % 4294967296 := ⟨_, rfl⟩
      rw [← hy0]
      have HM : Hid (y0 % 4294967296 = y0) := by
        show _ = _
        rw [hy0]; omega
      have HE : Hid (z0 = psum n F C T y0 np) := by
        show _ = _
        rw [hz0, hy0, HY.out, List.take_of_length_le (by simp; omega)]
      clear hy0 hz0
      go_loopw [6, 80] (fun z i wr => ∃ (j : Nat) (y : Int), j ≤ np ∧ z = .int .u32 y ∧ i = .int .i64 j ∧ Hid (y = psum n F C T y0 j) ∧ Hid (Below w4.heap.size w4 wr)) (fun _ i _ => np - (intOf i).toNat)
      case atStart => exact ⟨0, _, by omega, rfl, rfl, rfl, Below.refl _ _⟩
      case round =>
        obtain ⟨j, y1, hj, rfl, rfl, HY1, HW⟩ := hrel
        by_cases hjn : j < np
        · obtain ⟨e0, e1, e2⟩ := hcs j hjn
          have GW : wr.heap[w2.heap.size + 1]? = some (.cells cs 97) := by rw [HW.out.block _ HZ]; exact HG4.out
          have u0 : wr.cell? ⟨w2.heap.size + 1, j * 3, none⟩ = some (.int .i64 (F j)) := by rw [cell_of_row _ _ _ _ _ _ GW]; exact e0
          have u1 : wr.cell? ⟨w2.heap.size + 1, j * 3 + 1, none⟩ = some (.int .i64 (C j)) := by rw [cell_of_row _ _ _ _ _ _ GW]; exact e1
          have u2 : wr.cell? ⟨w2.heap.size + 1, j * 3 + 2, none⟩ = some (.int .i64 (T j)) := by rw [cell_of_row _ _ _ _ _ _ GW]; exact e2
          clear e0 e1 e2 GW
          have hzw := HW.out.size
          have qn : (wr.alloc (.cells #[.int .i64 (F j), .int .i64 (C j), .int .i64 (T j)] 97)).cell? ⟨w.heap.size, 4, none⟩ = some (.int .i64 n) := by
            rw [(HW.out.alloc (by omega) _).cell (p := ⟨w.heap.size, 4, none⟩) (by show w.heap.size < _; omega), cell_of_row _ _ _ _ _ _ GX.out]; rfl
          have hfj := hfc j hjn
          have HI : Hid (y1 = (y1 + n / (2 : Int) ^ F j % (2 : Int) ^ 0 * (2 : Int) ^ T j) % 4294967296) := by
            show _ = _
            have e := psum_mod n F C T y0 HM.out j
            rw [← HY1.out] at e
            simp [Int.emod_one, e]
          go_wp2_with fail
          go_loopw [6, 86] (fun z i wv => ∃ (q : Nat) (y : Int), q ≤ C j ∧ z = .int .u32 y ∧ i = .int .i64 q ∧ Hid (y = (y1 + n / (2 : Int) ^ F j % (2 : Int) ^ q * (2 : Int) ^ T j) % 4294967296) ∧ wv = wr.alloc (.cells #[.int .i64 (F j), .int .i64 (C j), .int .i64 (T j)] 97)) (fun _ i _ => C j - (intOf i).toNat)
          case atStart => exact ⟨0, _, by omega, rfl, rfl, HI, rfl⟩
          case round =>
            obtain ⟨q, y2, hq, rfl, rfl, HY2, rfl⟩ := hrel
            by_cases hqc : q < C j
            · have HSt : Hid ((y1 + n / (2 : Int) ^ F j % (2 : Int) ^ (q + 1) * (2 : Int) ^ T j) % 4294967296 = (y2 + n / (2 : Int) ^ (F j + q) % 2 * (2 : Int) ^ (T j + q)) % 4294967296) := by
                show _ = _
                rw [HY2.out, Int.emod_add_emod, bit_step, Int.add_mul, Int.add_assoc, Int.mul_assoc, ← Int.pow_add, Nat.add_comm q (T j)]
              cases hbt : (bits .and .i64 (n / 2 ^ (F j + q)) 1 == 1) with
              | false =>
                have HV : Hid (y2 = (y1 + n / (2 : Int) ^ F j % (2 : Int) ^ (q + 1) * (2 : Int) ^ T j) % 4294967296) := by
                  show _ = _
                  rw [and1] at hbt
                  have hb0 : n / (2 : Int) ^ (F j + q) % 2 = 0 := by
                    have : ¬ n / (2 : Int) ^ (F j + q) % 2 = 1 := by simpa using hbt
                    omega
                  rw [HSt.out, hb0, HY2.out]
                  simp
                go_wp2_with fail
                exact ⟨⟨q + 1, _, by omega, rfl, by simp, HV, trivial⟩, by simp [intOf]; omega⟩
              | true =>
                have HV : Hid ((y2 + (2 : Int) ^ (T j + q) % 4294967296) % 4294967296 = (y1 + n / (2 : Int) ^ F j % (2 : Int) ^ (q + 1) * (2 : Int) ^ T j) % 4294967296) := by
                  show _ = _
                  rw [and1] at hbt
                  have hb0 : n / (2 : Int) ^ (F j + q) % 2 = 1 := by simpa using hbt
                  rw [HSt.out, hb0, Int.one_mul]
                  generalize (2 : Int) ^ (T j + q) = p
                  omega
                go_wp2_with fail
                exact ⟨⟨q + 1, _, by omega, rfl, by simp, HV, trivial⟩, by simp [intOf]; omega⟩
            · have HV : Hid (y2 = psum n F C T y0 (j + 1)) := by
                show _ = _
                rw [HY2.out, HY1.out, show q = C j by omega]; rfl
              go_wp2_with fail
              exact ⟨⟨j + 1, _, by omega, rfl, by simp, HV, HW.out.alloc hzw _⟩, by simp [intOf]; omega⟩
        · have HV : Hid (y1 = z0) := by
            show _ = _
            rw [HY1.out, HE.out, show j = np by omega]
          go_wp2_with fail
          go_ret2
          have hv := HV.out
          subst hv
          exact ⟨rfl, HB4.out.trans (HW.out.mono (by omega))⟩
set_option maxRecDepth 100000 in
set_option maxHeartbeats 8000000 in
theorem enc_E (o d a b n l m h z0 : Int) (hs : ByteArray) (w : World) (hF : FormAt o 69 l m h)
    (hR : ∀ w, Calls Tryz.prog 23 #[instV o d a b n] w fun e w' => e = .returned (.bool true) ∧ Below w.heap.size w w')
    (hH : ∀ w, Calls Tryz.prog 41 #[.int .u8 69] w fun e w' => e = .returned (.string hs) ∧ w' = w)
    (ha : ∀ p (h : p < hs.size), (hs[p]'h).toNat < 128) (hd : 0 ≤ d ∧ d < 32) (hra : 0 ≤ a ∧ a < 32) (hrb : 0 ≤ b ∧ b < 32)
    
    (hP : ∀ w, Calls Tryz.prog 42 #[.int .u8 69] w fun e w' => e = .returned (.slice none 0 0) ∧ w' = w)
    (hz0 : z0 = ((strV (l) d a b hs.data.toList + h * 33554432) % 4294967296)) :
    Calls Tryz.prog 14 #[instV o d a b n] w fun e w' => e = .returned (.tuple #[.int .u32 z0, .int .i64 0]) ∧ Below w.heap.size w w' := by
  go_enter Tryz.func14, Tryz.ntmps14
  go_wp2_with (go_at_call 23; fail)
  refine (hR _).mono ?_
  rintro e w0 ⟨rfl, hb0⟩
  have hb0' : Below (w.heap.size + 1) (w.alloc (.cells #[.int .i64 o, .int .i64 d, .int .i64 a, .int .i64 b, .int .i64 n] 39)) w0 := hb0.mono (by simp)
  have hsz0 := hb0'.size
  simp at hsz0
  have G : w0.heap[w.heap.size]? = some (.cells #[.int .i64 o, .int .i64 d, .int .i64 a, .int .i64 b, .int .i64 n] 39) := by
    rw [hb0'.block _ (by simp)]; exact heap_alloc_last w _
  have c0 : w0.cell? ⟨w.heap.size, 0, none⟩ = some (.int .i64 o) := by rw [cell_of_row _ _ _ _ _ _ G]; rfl
  have HB0 : Hid (Below w.heap.size w w0) := ((Below.refl _ _).alloc (Nat.le_refl _) _).trans (hb0'.mono (by omega))
  have HG : Hid (w0.heap[w.heap.size]? = some (.cells #[.int .i64 o, .int .i64 d, .int .i64 a, .int .i64 b, .int .i64 n] 39)) := G
  clear hb0 hb0' G
  go_wp2_with (go_at_call 32; fail)
  refine (hF _).mono ?_
  rintro e w1 ⟨⟨s, rfl⟩, hb⟩
  go_wp2_with (first
    | (refine wpList_store_row rfl 80 _ _ rfl _ 80 _ _ rfl rfl (heap_alloc_last _ _) (by kernel_rfl) rfl (one45 _ _ _ _ _) ?_
       obtain ⟨w2, hw2⟩ : ∃ w2, w2 = (w1.alloc (.cells zero45 80)).setRow w1.heap.size #[Value.int .u8 69, .int .u32 l, .int .u32 m, .int .u32 h, .string s] := ⟨_, rfl⟩
       rw [← hw2]
       have hsz := hb.size
       have hb2 : Below w0.heap.size w0 w2 := by
         rw [hw2]; exact below_setRow (hb.alloc (by omega) _) (by omega) _
       have G1 : w2.heap[w1.heap.size]? = some (.cells #[Value.int .u8 69, .int .u32 l, .int .u32 m, .int .u32 h, .string s] 80) := by
         rw [hw2]; exact setRow_heap _ _ _ _ _ _ (heap_alloc_last _ _)
       have G0 : w2.heap[w.heap.size]? = some (.cells #[.int .i64 o, .int .i64 d, .int .i64 a, .int .i64 b, .int .i64 n] 39) := by
         rw [hb2.block _ (by omega)]; exact HG.out
       have HB : Hid (Below w.heap.size w w2) := HB0.out.trans (hb2.mono (by omega))
       clear hb2 hb hw2
       have p0 : w2.cell? ⟨w1.heap.size, 0, none⟩ = some (.int .u8 69) := by rw [cell_of_row _ _ _ _ _ _ G1]; rfl
       have p1 : w2.cell? ⟨w1.heap.size, 1, none⟩ = some (.int .u32 l) := by rw [cell_of_row _ _ _ _ _ _ G1]; rfl
       have p2 : w2.cell? ⟨w1.heap.size, 2, none⟩ = some (.int .u32 m) := by rw [cell_of_row _ _ _ _ _ _ G1]; rfl
       have L0 : w.heap.size < w2.heap.size := (Array.getElem?_eq_some_iff.mp G0).1
       have L1 : w1.heap.size < w2.heap.size := (Array.getElem?_eq_some_iff.mp G1).1
       have HG0 : Hid (w2.heap[w.heap.size]? = some (.cells #[.int .i64 o, .int .i64 d, .int .i64 a, .int .i64 b, .int .i64 n] 39)) := G0
       have HG1 : Hid (w2.heap[w1.heap.size]? = some (.cells #[Value.int .u8 69, .int .u32 l, .int .u32 m, .int .u32 h, .string s] 80)) := G1
       clear G0 G1)
    | (go_at_call 41; refine (hH _).mono ?_; rintro e w2 ⟨rfl, rfl⟩))
  go_loopw [6] (fun z wr => ∃ (k : Nat) (y : Int), k ≤ hs.size ∧ z = .int .u32 y ∧ Hid (y = strV (l) d a b (hs.data.toList.take k)) ∧ wr = w2.iter hs k) (fun _ wr => hs.size - iterPos wr w2.heap.size)
  case atStart => exact ⟨0, _, by omega, rfl, rfl, rfl⟩
  case round =>
    obtain ⟨k, y, hk, rfl, HY, rfl⟩ := hrel
    by_cases hi : k < hs.size
    · have hnx := fun ty => run_next_ascii (P := Tryz.prog) w2 hs k ty hi (ha k hi)
      have r1 : (w2.iter hs (k + 1)).cell? ⟨w.heap.size, 1, none⟩ = some (.int .i64 d) := by rw [iter_cell _ _ _ _ _ _ _ HG0.out, cell_of_row _ _ _ _ _ _ HG0.out]; rfl
      have r2 : (w2.iter hs (k + 1)).cell? ⟨w.heap.size, 2, none⟩ = some (.int .i64 a) := by rw [iter_cell _ _ _ _ _ _ _ HG0.out, cell_of_row _ _ _ _ _ _ HG0.out]; rfl
      have r3 : (w2.iter hs (k + 1)).cell? ⟨w.heap.size, 3, none⟩ = some (.int .i64 b) := by rw [iter_cell _ _ _ _ _ _ _ HG0.out, cell_of_row _ _ _ _ _ _ HG0.out]; rfl
      have HS := strV_step (l) d a b hs k hi
      have HS' : Hid (strV (l) d a b (hs.data.toList.take (k + 1)) = (y + chV d a b (hs[k]'hi).toNat) % 4294967296) := by
        show _ = _
        rw [HS, HY.out]
      clear HS
      by_cases h100 : (hs[k]'hi).toNat = 100
      · have hq : (((hs[k]'hi).toNat : Int) == 100) = true := by simp [h100]
        have HV : Hid (strV (l) d a b (hs.data.toList.take (k + 1)) = (y + d * 128) % 4294967296) := by
          show _ = _
          rw [HS'.out, chV, if_pos h100]
        clear h100
        go_wp2
        exact ⟨⟨k + 1, _, by omega, rfl, HV.out.symm, rfl⟩, by rw [iterPos_iter, iterPos_iter]; omega⟩
      · have hq : (((hs[k]'hi).toNat : Int) == 100) = false := by simp; omega
        by_cases h97 : (hs[k]'hi).toNat = 97
        · have hq' : (((hs[k]'hi).toNat : Int) == 97) = true := by simp [h97]
          have HV : Hid (strV (l) d a b (hs.data.toList.take (k + 1)) = (y + a * 32768) % 4294967296) := by
            show _ = _
            rw [HS'.out, chV, if_neg h100, if_pos h97]
          clear h97 h100
          go_wp2
          exact ⟨⟨k + 1, _, by omega, rfl, HV.out.symm, rfl⟩, by rw [iterPos_iter, iterPos_iter]; omega⟩
        · have hq' : (((hs[k]'hi).toNat : Int) == 97) = false := by simp; omega
          have HV : Hid (strV (l) d a b (hs.data.toList.take (k + 1)) = (y + b * 1048576) % 4294967296) := by
            show _ = _
            rw [HS'.out, chV, if_neg h100, if_neg h97]
          clear h97 h100
          go_wp2
          exact ⟨⟨k + 1, _, by omega, rfl, HV.out.symm, rfl⟩, by rw [iterPos_iter, iterPos_iter]; omega⟩
    · have hnx := fun ty => run_next_end (P := Tryz.prog) w2 hs k ty hi
      have r0 : (w2.iter hs k).cell? ⟨w1.heap.size, 0, none⟩ = some (.int .u8 69) := by rw [iter_cell _ _ _ _ _ _ _ HG1.out, cell_of_row _ _ _ _ _ _ HG1.out]; rfl
      have r3 : (w2.iter hs k).cell? ⟨w1.heap.size, 3, none⟩ = some (.int .u32 h) := by rw [iter_cell _ _ _ _ _ _ _ HG1.out, cell_of_row _ _ _ _ _ _ HG1.out]; rfl
      go_wp2_with (go_at_call 42; refine (hP _).mono ?_; rintro e w4 ⟨rfl, hw4'⟩; have hw4 : Hid (w4 = w2.iter hs k) := hw4'; clear hw4')
      have HB4 : Hid (Below w.heap.size w w4) := by
        show Below _ _ _
        rw [hw4.out]; exact HB.out.trans (((Below.refl _ _).alloc (Nat.le_refl _) _).mono (by omega))
      obtain ⟨y0, hy0⟩ : ∃ y0, y0 = (y + h * 33554432) % 4294967296 := ⟨_, rfl⟩
      rw [← hy0]
      have HE : Hid (z0 = y0) := by
        show _ = _
        rw [hz0, hy0, HY.out, List.take_of_length_le (by simp; omega)]
      clear hy0 hz0 hw4 r0 r3 hnx
      go_loopw [6, 80] (fun z i wr => z = .int .u32 y0 ∧ i = .int .i64 0 ∧ wr = w4) (fun _ _ _ => 0)
      case atStart => exact ⟨rfl, rfl, rfl⟩
      case round =>
        obtain ⟨rfl, rfl, rfl⟩ := hrel
        go_wp2_with fail
        go_ret2
        have hv := HE.out
        subst hv
        exact ⟨rfl, HB4.out⟩
end Go.Proofs.YtjjjdplgdlaihaaGreatDoor
