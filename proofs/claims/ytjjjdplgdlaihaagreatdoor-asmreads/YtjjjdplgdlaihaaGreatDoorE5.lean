/- RightInst of the document's own answer, walked, kind by kind. -/
import Derived.Test.YtjjjdplgdlaihaaGreatDoorMM
import Derived.Test.YtjjjdplgdlaihaaGreatDoorE3
namespace Go.Proofs.YtjjjdplgdlaihaaGreatDoor
open Go Go.RowKit

def regOk (t : Bool) (x : Int) : Bool := (decide (0 ≤ x) && decide (x ≤ 31)) && (t || x == 0)
abbrev FormIs (o kc l m h : Int) : Prop := ∀ w, Calls Tryz.prog 32 #[.int .i64 o] w fun e w' => (∃ s, e = .returned (.tuple #[formV kc l m h s, .bool true])) ∧ Below w.heap.size w w'
theorem in_is (n lo hi : Int) (B : Bool) (h : (decide (lo ≤ n) && decide (n ≤ hi)) = B) (w : World) :
    Calls Tryz.prog 31 #[.int .i64 n, .int .i64 lo, .int .i64 hi] w fun e w' => e = .returned (.bool B) ∧ w' = w := h ▸ in_any n lo hi w
theorem there_is (s : ByteArray) (c : UInt8) (B : Bool) (h : decide (0 ≤ Lib.indexByte s.data.toList c) = B) (w : World) :
    Calls Tryz.prog 56 #[.string s, .string ⟨#[c]⟩] w fun e w' => e = .returned (.bool B) ∧ w' = w := h ▸ strings_Contains_one s c w
theorem jx0 (a0 a1 a2 : Int) (w : World) : Sem.run Tryz.prog (Instr.index 97 (.agg #[.int .i64 a0, .int .i64 a1, .int .i64 a2]) (.int .i64 0)) w = .ok (.int .i64 a0) w := by kernel_rfl
theorem jx1 (a0 a1 a2 : Int) (w : World) : Sem.run Tryz.prog (Instr.index 97 (.agg #[.int .i64 a0, .int .i64 a1, .int .i64 a2]) (.int .i64 1)) w = .ok (.int .i64 a1) w := by kernel_rfl
theorem jx2 (a0 a1 a2 : Int) (w : World) : Sem.run Tryz.prog (Instr.index 97 (.agg #[.int .i64 a0, .int .i64 a1, .int .i64 a2]) (.int .i64 2)) w = .ok (.int .i64 a2) w := by kernel_rfl
/-- What is asked of N, by the kind. -/
def TailIs (n kc bs of : Int) (tl : Bool) : Prop :=
  (kc = 72 ∧ tl = (decide (0 ≤ n) && decide (n ≤ 63))) ∨ ((kc == 72) = false ∧ bs = 0 ∧ tl = (n == 0)) ∨ ((kc == 72) = false ∧ bs = 12 ∧ of = 1 ∧ tl = (decide (-2048 ≤ n) && decide (n ≤ 2047))) ∨ ((kc == 72) = false ∧ bs = 13 ∧ of = 2 ∧ tl = (decide (-4096 ≤ n) && decide (n ≤ 4095) && (n.tmod 2 == 0))) ∨
  ((kc == 72) = false ∧ bs = 32 ∧ of = 4096 ∧ tl = (decide (-2147483648 ≤ n) && decide (n ≤ 2147483647) && (n.tmod 4096 == 0))) ∨ ((kc == 72) = false ∧ bs = 21 ∧ of = 2 ∧ tl = (decide (-1048576 ≤ n) && decide (n ≤ 1048575) && (n.tmod 2 == 0)))
theorem TailIs.h {n : Int} (bs of : Int) : TailIs n 72 bs of (decide (0 ≤ n) && decide (n ≤ 63)) := .inl ⟨rfl, rfl⟩
theorem TailIs.z {n : Int} (kc of : Int) (hk : (kc == 72) = false) : TailIs n kc 0 of (n == 0) := .inr (.inl ⟨hk, rfl, rfl⟩)
theorem TailIs.i {n : Int} (kc : Int) (hk : (kc == 72) = false) : TailIs n kc 12 1 (decide (-2048 ≤ n) && decide (n ≤ 2047)) := .inr (.inr (.inl ⟨hk, rfl, rfl, rfl⟩))
theorem TailIs.b {n : Int} (kc : Int) (hk : (kc == 72) = false) : TailIs n kc 13 2 (decide (-4096 ≤ n) && decide (n ≤ 4095) && (n.tmod 2 == 0)) := .inr (.inr (.inr (.inl ⟨hk, rfl, rfl, rfl⟩)))
theorem TailIs.u {n : Int} (kc : Int) (hk : (kc == 72) = false) : TailIs n kc 32 4096 (decide (-2147483648 ≤ n) && decide (n ≤ 2147483647) && (n.tmod 4096 == 0)) := .inr (.inr (.inr (.inr (.inl ⟨hk, rfl, rfl, rfl⟩))))
theorem TailIs.j {n : Int} (kc : Int) (hk : (kc == 72) = false) : TailIs n kc 21 2 (decide (-1048576 ≤ n) && decide (n ≤ 1048575) && (n.tmod 2 == 0)) := .inr (.inr (.inr (.inr (.inr ⟨hk, rfl, rfl, rfl⟩))))

set_option maxRecDepth 100000 in
set_option maxHeartbeats 20000000 in
theorem right_core (o d a b n kc l m h bits of : Int) (hs : ByteArray) (t0 t1 t2 tl : Bool) (w : World) (hF : FormIs o kc l m h)
    (hH : ∀ w, Calls Tryz.prog 41 #[.int .u8 kc] w fun e w' => e = .returned (.string hs) ∧ w' = w)
    (hS : ∀ w, Calls Tryz.prog 57 #[.int .u8 kc] w fun e w' => e = .returned (.tuple #[.int .i64 bits, .int .i64 of]) ∧ w' = w)
    (h0 : decide (0 ≤ Lib.indexByte hs.data.toList 100) = t0) (h1 : decide (0 ≤ Lib.indexByte hs.data.toList 97) = t1) (h2 : decide (0 ≤ Lib.indexByte hs.data.toList 98) = t2)
    (hT : TailIs n kc bits of tl) :
    Calls Tryz.prog 23 #[instV o d a b n] w fun e w' => e = .returned (.bool (regOk t0 d && regOk t1 a && regOk t2 b && tl)) ∧ Below w.heap.size w w' := by
  go_enter Tryz.func23, Tryz.ntmps23
  go_wp2_with fail
  refine (hF _).mono ?_
  rintro e w1 ⟨⟨s, rfl⟩, hb⟩
  go_wp2_with (
    refine wpList_store_row rfl 80 _ _ rfl _ 80 _ _ rfl rfl (heap_alloc_last _ _) (by kernel_rfl) rfl (one45 _ _ _ _ _) ?_
    obtain ⟨w2, hw2⟩ : ∃ w2, w2 = (w1.alloc (.cells zero45 80)).setRow w1.heap.size #[Value.int .u8 kc, .int .u32 l, .int .u32 m, .int .u32 h, .string s] := ⟨_, rfl⟩
    rw [← hw2]
    have hsz := hb.size
    simp at hsz
    have hb2 : Below (w.heap.size + 1) (w.alloc (.cells #[.int .i64 o, .int .i64 d, .int .i64 a, .int .i64 b, .int .i64 n] 39)) w2 := by
      rw [hw2]; exact below_setRow ((hb.mono (by simp)).alloc (by omega) _) (by omega) _
    have G1 : w2.heap[w1.heap.size]? = some (.cells #[Value.int .u8 kc, .int .u32 l, .int .u32 m, .int .u32 h, .string s] 80) := by
      rw [hw2]; exact setRow_heap _ _ _ _ _ _ (heap_alloc_last _ _)
    have G0 : w2.heap[w.heap.size]? = some (.cells #[.int .i64 o, .int .i64 d, .int .i64 a, .int .i64 b, .int .i64 n] 39) := by
      rw [hb2.block _ (by simp)]; exact heap_alloc_last w _
    have HB : Hid (Below w.heap.size w w2) := ((Below.refl _ _).alloc (Nat.le_refl _) _).trans (hb2.mono (by omega))
    clear hb2 hb hw2
    have q1 : w2.cell? ⟨w.heap.size, 1, none⟩ = some (.int .i64 d) := by rw [cell_of_row _ _ _ _ _ _ G0]; rfl
    have q2 : w2.cell? ⟨w.heap.size, 2, none⟩ = some (.int .i64 a) := by rw [cell_of_row _ _ _ _ _ _ G0]; rfl
    have q3 : w2.cell? ⟨w.heap.size, 3, none⟩ = some (.int .i64 b) := by rw [cell_of_row _ _ _ _ _ _ G0]; rfl
    have q4 : w2.cell? ⟨w.heap.size, 4, none⟩ = some (.int .i64 n) := by rw [cell_of_row _ _ _ _ _ _ G0]; rfl
    have p0 : w2.cell? ⟨w1.heap.size, 0, none⟩ = some (.int .u8 kc) := by rw [cell_of_row _ _ _ _ _ _ G1]; rfl
    have L0 : w.heap.size < w2.heap.size := (Array.getElem?_eq_some_iff.mp G0).1
    have L1 : w1.heap.size < w2.heap.size := (Array.getElem?_eq_some_iff.mp G1).1
    clear G0 G1)
  go_loopw [26] (fun i wr => ∃ (k : Nat), k ≤ 3 ∧ i = .int .i64 k ∧ Hid ((1 ≤ k → regOk t0 d = true) ∧ (2 ≤ k → regOk t1 a = true) ∧ (3 ≤ k → regOk t2 b = true)) ∧ Hid (Below w2.heap.size w2 wr)) (fun i _ => 3 - (intOf i).toNat)
  case atStart => exact ⟨0, by omega, rfl, ⟨fun h => by omega, fun h => by omega, fun h => by omega⟩, Below.refl _ _⟩
  case round =>
    obtain ⟨k, hk, rfl, HR, HW⟩ := hrel
    have r4 : wr.cell? ⟨w.heap.size, 4, none⟩ = some (.int .i64 n) := by rw [HW.out.cell (p := ⟨w.heap.size, 4, none⟩) L0]; exact q4
    have r0 : wr.cell? ⟨w1.heap.size, 0, none⟩ = some (.int .u8 kc) := by rw [HW.out.cell (p := ⟨w1.heap.size, 0, none⟩) L1]; exact p0
    clear q1 q2 q3 q4 p0
    have hk4 : k = 0 ∨ k = 1 ∨ k = 2 ∨ k = 3 := by omega
    rcases hk4 with rfl | rfl | rfl | rfl
    · have hix := jx0
      cases hB : (decide (0 ≤ d) && decide (d ≤ 31)) with
      | false =>
        go_wp2_with fail
        go_quiet (first | (go_at_call 41; exact Calls.quiet_of_same (hH _)) | (go_at_call 56; exact Calls.quiet_of_same (there_is hs 100 _ h0 _)))
        go_wp2_with (go_at_call 31; refine (in_is _ _ _ false hB _).mono ?_; rintro e w' ⟨rfl, rfl⟩)
        go_ret
        exact ⟨ret_bool (by simp [regOk, hB]), HB.out.trans ((below_drewN HW.out _).mono (by omega))⟩
      | true =>
        cases t0 with
        | true =>
          go_wp2_with fail
          go_quiet (first | (go_at_call 41; exact Calls.quiet_of_same (hH _)) | (go_at_call 56; exact Calls.quiet_of_same (there_is hs 100 _ h0 _)))
          go_wp2_with (go_at_call 31; refine (in_is _ _ _ true hB _).mono ?_; rintro e w' ⟨rfl, rfl⟩)
          exact ⟨⟨1, by omega, rfl, ⟨fun _ => by simp [regOk, hB], fun h => by omega, fun h => by omega⟩, below_drewN HW.out _⟩, by simp [intOf]⟩
        | false =>
          by_cases hx : d = 0
          · have hx' : (d != 0) = false := by simp [hx]
            have HX : Hid (d = 0) := hx
            clear hx
            go_wp2_with fail
            go_quiet (first | (go_at_call 41; exact Calls.quiet_of_same (hH _)) | (go_at_call 56; exact Calls.quiet_of_same (there_is hs 100 _ h0 _)))
            go_wp2_with (go_at_call 31; refine (in_is _ _ _ true hB _).mono ?_; rintro e w' ⟨rfl, rfl⟩)
            exact ⟨⟨1, by omega, rfl, ⟨fun _ => by simp [regOk, HX.out], fun h => by omega, fun h => by omega⟩, below_drewN HW.out _⟩, by simp [intOf]⟩
          · have hx' : (d != 0) = true := by simp [hx]
            have HX : Hid (¬ d = 0) := hx
            clear hx
            go_wp2_with fail
            go_quiet (first | (go_at_call 41; exact Calls.quiet_of_same (hH _)) | (go_at_call 56; exact Calls.quiet_of_same (there_is hs 100 _ h0 _)))
            go_wp2_with (go_at_call 31; refine (in_is _ _ _ true hB _).mono ?_; rintro e w' ⟨rfl, rfl⟩)
            go_ret
            exact ⟨ret_bool (by simp [regOk, hB, HX.out]), HB.out.trans ((below_drewN HW.out _).mono (by omega))⟩
    · have hix := jx1
      cases hB : (decide (0 ≤ a) && decide (a ≤ 31)) with
      | false =>
        go_wp2_with fail
        go_quiet (first | (go_at_call 41; exact Calls.quiet_of_same (hH _)) | (go_at_call 56; exact Calls.quiet_of_same (there_is hs 97 _ h1 _)))
        go_wp2_with (go_at_call 31; refine (in_is _ _ _ false hB _).mono ?_; rintro e w' ⟨rfl, rfl⟩)
        go_ret
        exact ⟨ret_bool (by simp [regOk, hB]), HB.out.trans ((below_drewN HW.out _).mono (by omega))⟩
      | true =>
        cases t1 with
        | true =>
          go_wp2_with fail
          go_quiet (first | (go_at_call 41; exact Calls.quiet_of_same (hH _)) | (go_at_call 56; exact Calls.quiet_of_same (there_is hs 97 _ h1 _)))
          go_wp2_with (go_at_call 31; refine (in_is _ _ _ true hB _).mono ?_; rintro e w' ⟨rfl, rfl⟩)
          exact ⟨⟨2, by omega, rfl, ⟨fun _ => HR.out.1 (by omega), fun _ => by simp [regOk, hB], fun h => by omega⟩, below_drewN HW.out _⟩, by simp [intOf]⟩
        | false =>
          by_cases hx : a = 0
          · have hx' : (a != 0) = false := by simp [hx]
            have HX : Hid (a = 0) := hx
            clear hx
            go_wp2_with fail
            go_quiet (first | (go_at_call 41; exact Calls.quiet_of_same (hH _)) | (go_at_call 56; exact Calls.quiet_of_same (there_is hs 97 _ h1 _)))
            go_wp2_with (go_at_call 31; refine (in_is _ _ _ true hB _).mono ?_; rintro e w' ⟨rfl, rfl⟩)
            exact ⟨⟨2, by omega, rfl, ⟨fun _ => HR.out.1 (by omega), fun _ => by simp [regOk, HX.out], fun h => by omega⟩, below_drewN HW.out _⟩, by simp [intOf]⟩
          · have hx' : (a != 0) = true := by simp [hx]
            have HX : Hid (¬ a = 0) := hx
            clear hx
            go_wp2_with fail
            go_quiet (first | (go_at_call 41; exact Calls.quiet_of_same (hH _)) | (go_at_call 56; exact Calls.quiet_of_same (there_is hs 97 _ h1 _)))
            go_wp2_with (go_at_call 31; refine (in_is _ _ _ true hB _).mono ?_; rintro e w' ⟨rfl, rfl⟩)
            go_ret
            exact ⟨ret_bool (by simp [regOk, hB, HX.out]), HB.out.trans ((below_drewN HW.out _).mono (by omega))⟩
    · have hix := jx2
      cases hB : (decide (0 ≤ b) && decide (b ≤ 31)) with
      | false =>
        go_wp2_with fail
        go_quiet (first | (go_at_call 41; exact Calls.quiet_of_same (hH _)) | (go_at_call 56; exact Calls.quiet_of_same (there_is hs 98 _ h2 _)))
        go_wp2_with (go_at_call 31; refine (in_is _ _ _ false hB _).mono ?_; rintro e w' ⟨rfl, rfl⟩)
        go_ret
        exact ⟨ret_bool (by simp [regOk, hB]), HB.out.trans ((below_drewN HW.out _).mono (by omega))⟩
      | true =>
        cases t2 with
        | true =>
          go_wp2_with fail
          go_quiet (first | (go_at_call 41; exact Calls.quiet_of_same (hH _)) | (go_at_call 56; exact Calls.quiet_of_same (there_is hs 98 _ h2 _)))
          go_wp2_with (go_at_call 31; refine (in_is _ _ _ true hB _).mono ?_; rintro e w' ⟨rfl, rfl⟩)
          exact ⟨⟨3, by omega, rfl, ⟨fun _ => HR.out.1 (by omega), fun _ => HR.out.2.1 (by omega), fun _ => by simp [regOk, hB]⟩, below_drewN HW.out _⟩, by simp [intOf]⟩
        | false =>
          by_cases hx : b = 0
          · have hx' : (b != 0) = false := by simp [hx]
            have HX : Hid (b = 0) := hx
            clear hx
            go_wp2_with fail
            go_quiet (first | (go_at_call 41; exact Calls.quiet_of_same (hH _)) | (go_at_call 56; exact Calls.quiet_of_same (there_is hs 98 _ h2 _)))
            go_wp2_with (go_at_call 31; refine (in_is _ _ _ true hB _).mono ?_; rintro e w' ⟨rfl, rfl⟩)
            exact ⟨⟨3, by omega, rfl, ⟨fun _ => HR.out.1 (by omega), fun _ => HR.out.2.1 (by omega), fun _ => by simp [regOk, HX.out]⟩, below_drewN HW.out _⟩, by simp [intOf]⟩
          · have hx' : (b != 0) = true := by simp [hx]
            have HX : Hid (¬ b = 0) := hx
            clear hx
            go_wp2_with fail
            go_quiet (first | (go_at_call 41; exact Calls.quiet_of_same (hH _)) | (go_at_call 56; exact Calls.quiet_of_same (there_is hs 98 _ h2 _)))
            go_wp2_with (go_at_call 31; refine (in_is _ _ _ true hB _).mono ?_; rintro e w' ⟨rfl, rfl⟩)
            go_ret
            exact ⟨ret_bool (by simp [regOk, hB, HX.out]), HB.out.trans ((below_drewN HW.out _).mono (by omega))⟩
    · have HA : Hid (regOk t0 d = true ∧ regOk t1 a = true ∧ regOk t2 b = true) := ⟨HR.out.1 (by omega), HR.out.2.1 (by omega), HR.out.2.2 (by omega)⟩
      clear h0 h1 h2 hH
      go_wp2_with fail
      refine (hS _).mono ?_
      rintro e w' ⟨rfl, rfl⟩
      clear hS hF
      rcases hT with ⟨rfl, rfl⟩ | ⟨hk, rfl, rfl⟩ | ⟨hk, rfl, rfl, rfl⟩ | ⟨hk, rfl, rfl, rfl⟩ | ⟨hk, rfl, rfl, rfl⟩ | ⟨hk, rfl, rfl, rfl⟩
      · go_wp2_with (go_at_call 31; refine (in_is _ _ _ _ rfl _).mono ?_; rintro e w' ⟨rfl, rfl⟩)
        go_ret
        exact ⟨ret_bool (by simp [HA.out.1, HA.out.2.1, HA.out.2.2]), HB.out.trans (HW.out.mono (by omega))⟩
      · go_wp2
        go_ret
        exact ⟨ret_bool (by simp [HA.out.1, HA.out.2.1, HA.out.2.2]), HB.out.trans (HW.out.mono (by omega))⟩
      · cases hB : (decide (-2048 ≤ n) && decide (n ≤ 2047)) with
        | false =>
          go_wp2_with (go_at_call 31; refine (in_is _ _ _ false hB _).mono ?_; rintro e w' ⟨rfl, rfl⟩)
          go_ret
          exact ⟨ret_bool (by simp [HA.out.1, HA.out.2.1, HA.out.2.2, hB]), HB.out.trans (HW.out.mono (by omega))⟩
        | true =>
          go_wp2_with (go_at_call 31; refine (in_is _ _ _ true hB _).mono ?_; rintro e w' ⟨rfl, rfl⟩)
          go_ret
          exact ⟨ret_bool (by simp [HA.out.1, HA.out.2.1, HA.out.2.2, hB]), HB.out.trans (HW.out.mono (by omega))⟩
      · cases hB : (decide (-4096 ≤ n) && decide (n ≤ 4095)) with
        | false =>
          go_wp2_with (go_at_call 31; refine (in_is _ _ _ false hB _).mono ?_; rintro e w' ⟨rfl, rfl⟩)
          go_ret
          exact ⟨ret_bool (by simp [HA.out.1, HA.out.2.1, HA.out.2.2, hB]), HB.out.trans (HW.out.mono (by omega))⟩
        | true =>
          go_wp2_with (go_at_call 31; refine (in_is _ _ _ true hB _).mono ?_; rintro e w' ⟨rfl, rfl⟩)
          go_ret
          exact ⟨ret_bool (by simp [HA.out.1, HA.out.2.1, HA.out.2.2, hB]), HB.out.trans (HW.out.mono (by omega))⟩
      · cases hB : (decide (-2147483648 ≤ n) && decide (n ≤ 2147483647)) with
        | false =>
          go_wp2_with (go_at_call 31; refine (in_is _ _ _ false hB _).mono ?_; rintro e w' ⟨rfl, rfl⟩)
          go_ret
          exact ⟨ret_bool (by simp [HA.out.1, HA.out.2.1, HA.out.2.2, hB]), HB.out.trans (HW.out.mono (by omega))⟩
        | true =>
          go_wp2_with (go_at_call 31; refine (in_is _ _ _ true hB _).mono ?_; rintro e w' ⟨rfl, rfl⟩)
          go_ret
          exact ⟨ret_bool (by simp [HA.out.1, HA.out.2.1, HA.out.2.2, hB]), HB.out.trans (HW.out.mono (by omega))⟩
      · cases hB : (decide (-1048576 ≤ n) && decide (n ≤ 1048575)) with
        | false =>
          go_wp2_with (go_at_call 31; refine (in_is _ _ _ false hB _).mono ?_; rintro e w' ⟨rfl, rfl⟩)
          go_ret
          exact ⟨ret_bool (by simp [HA.out.1, HA.out.2.1, HA.out.2.2, hB]), HB.out.trans (HW.out.mono (by omega))⟩
        | true =>
          go_wp2_with (go_at_call 31; refine (in_is _ _ _ true hB _).mono ?_; rintro e w' ⟨rfl, rfl⟩)
          go_ret
          exact ⟨ret_bool (by simp [HA.out.1, HA.out.2.1, HA.out.2.2, hB]), HB.out.trans (HW.out.mono (by omega))⟩
end Go.Proofs.YtjjjdplgdlaihaaGreatDoor
