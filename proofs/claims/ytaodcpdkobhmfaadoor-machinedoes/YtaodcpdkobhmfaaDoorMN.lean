/- RightInst of the document's own answer, walked, kind by kind. RightInst of the document's own answer: the same as Right's, at every instruction. Where the bits of N lie: pieces of the document's own answer, walked, kind by kind. Bits of a number, one by one, as a sum. Encode of the document's own answer, walked. -/
import Derived.Test.YtaodcpdkobhmfaaDoorMM
import Derived.Test.YtaodcpdkobhmfaaDoorE3
namespace Go.Proofs.YtaodcpdkobhmfaaDoor
open Go Go.RowKit

def regOk (t : Bool) (x : Int) : Bool := (decide (0 ≤ x) && decide (x ≤ 31)) && (t || x == 0)
abbrev FormIs (o kc l m h : Int) : Prop := ∀ w, Calls Tryd.prog 33 #[.int .i64 o] w fun e w' => (∃ s, e = .returned (.tuple #[formV kc l m h s, .bool true])) ∧ Below w.heap.size w w'
theorem in_is (n lo hi : Int) (B : Bool) (h : (decide (lo ≤ n) && decide (n ≤ hi)) = B) (w : World) :
    Calls Tryd.prog 36 #[.int .i64 n, .int .i64 lo, .int .i64 hi] w fun e w' => e = .returned (.bool B) ∧ w' = w := h ▸ in_any n lo hi w
theorem there_is (s : ByteArray) (c : UInt8) (B : Bool) (h : decide (0 ≤ Lib.indexByte s.data.toList c) = B) (w : World) :
    Calls Tryd.prog 74 #[.string s, .string ⟨#[c]⟩] w fun e w' => e = .returned (.bool B) ∧ w' = w := h ▸ strings_Contains_one s c w
theorem jx0 (a0 a1 a2 : Int) (w : World) : Sem.run Tryd.prog (Instr.index 97 (.agg #[.int .i64 a0, .int .i64 a1, .int .i64 a2]) (.int .i64 0)) w = .ok (.int .i64 a0) w := by kernel_rfl
theorem jx1 (a0 a1 a2 : Int) (w : World) : Sem.run Tryd.prog (Instr.index 97 (.agg #[.int .i64 a0, .int .i64 a1, .int .i64 a2]) (.int .i64 1)) w = .ok (.int .i64 a1) w := by kernel_rfl
theorem jx2 (a0 a1 a2 : Int) (w : World) : Sem.run Tryd.prog (Instr.index 97 (.agg #[.int .i64 a0, .int .i64 a1, .int .i64 a2]) (.int .i64 2)) w = .ok (.int .i64 a2) w := by kernel_rfl
/-- What is asked of N, by the kind. -/
def TailIs (n kc bs of : Int) (tl : Bool) : Prop :=
  (kc = 72 ∧ tl = (decide (0 ≤ n) && decide (n ≤ 63))) ∨ ((kc == 72) = false ∧ bs = 0 ∧ tl = (n == 0)) ∨ ((kc == 72) = false ∧ bs = 12 ∧ of = 1 ∧ tl = (decide (-2048 ≤ n) && decide (n ≤ 2047))) ∨ ((kc == 72) = false ∧ bs = 13 ∧ of = 2 ∧ tl = (decide (-4096 ≤ n) && decide (n ≤ 4095) && (n.tmod 2 == 0))) ∨
  ((kc == 72) = false ∧ bs = 32 ∧ of = 4096 ∧ tl = (decide (-2147483648 ≤ n) && decide (n ≤ 2147483647) && (n.tmod 4096 == 0))) ∨ ((kc == 72) = false ∧ bs = 21 ∧ of = 2 ∧ tl = (decide (-1048576 ≤ n) && decide (n ≤ 1048575) && (n.tmod 2 == 0)))
theorem TailIs.h {n : Int} (bs of : Int) : TailIs n 72 bs of (decide (0 ≤ n) && decide (n ≤ 63)) := .inl ⟨rfl, rfl⟩
theorem TailIs.z {n : Int} (kc of : Int) (hk : (kc == 72) = false) : TailIs n kc 0 of (n == 0) := .inr (.inl ⟨hk, rfl, rfl⟩)
theorem TailIs.i {n : Int} (kc : Int) (hk : (kc == 72) = false) : TailIs n kc 12 1 (decide (-2048 ≤ n) && decide (n ≤ 2047)) := .inr (.inr (.inl ⟨hk, rfl, rfl, rfl⟩))
theorem TailIs.b {n : Int} (kc : Int) (hk : (kc == 72) = false) : TailIs n kc 13 2 (decide (-4096 ≤ n) && decide (n ≤ 4095) && (n.tmod 2 == 0)) := .inr (.inr (.inr (.inl ⟨hk, rfl, rfl, rfl⟩)))
theorem TailIs.u {n : Int} (kc : Int) (hk : (kc == 72) = false) : TailIs n kc 32 4096 (decide (-2147483648 ≤ n) && decide (n ≤ 2147483647) && (n.tmod 4096 == 0)) := .inr (.inr (.inr (.inr (.inl ⟨hk, rfl, rfl, rfl⟩))))
theorem TailIs.j {n : Int} (kc : Int) (hk : (kc == 72) = false) : TailIs n kc 21 2 (decide (-1048576 ≤ n) && decide (n ≤ 1048575) && (n.tmod 2 == 0)) := .inr (.inr (.inr (.inr (.inr ⟨hk, rfl, rfl, rfl⟩))))

set_option maxRecDepth 100000 in
set_option maxHeartbeats 20000000 in
theorem right_core (o d a b n kc l m h bits of : Int) (hs : ByteArray) (t0 t1 t2 tl : Bool) (w : World) (hF : FormIs o kc l m h)
    (hH : ∀ w, Calls Tryd.prog 47 #[.int .u8 kc] w fun e w' => e = .returned (.string hs) ∧ w' = w)
    (hS : ∀ w, Calls Tryd.prog 49 #[.int .u8 kc] w fun e w' => e = .returned (.tuple #[.int .i64 bits, .int .i64 of]) ∧ w' = w)
    (h0 : decide (0 ≤ Lib.indexByte hs.data.toList 100) = t0) (h1 : decide (0 ≤ Lib.indexByte hs.data.toList 97) = t1) (h2 : decide (0 ≤ Lib.indexByte hs.data.toList 98) = t2)
    (hT : TailIs n kc bits of tl) :
    Calls Tryd.prog 67 #[instV o d a b n] w fun e w' => e = .returned (.bool (regOk t0 d && regOk t1 a && regOk t2 b && tl)) ∧ Below w.heap.size w w' := by
  go_enter Tryd.func67, Tryd.ntmps67
  go_wp2_with fail
  refine (hF _).mono ?_
  rintro e w1 ⟨⟨s, rfl⟩, hb⟩
  go_wp2_with (
    refine wpList_store_row rfl 79 _ _ rfl _ 79 _ _ rfl rfl (heap_alloc_last _ _) (by kernel_rfl) rfl (one45 _ _ _ _ _) ?_
    obtain ⟨w2, hw2⟩ : ∃ w2, w2 = (w1.alloc (.cells zero45 79)).setRow w1.heap.size #[Value.int .u8 kc, .int .u32 l, .int .u32 m, .int .u32 h, .string s] := ⟨_, rfl⟩
    rw [← hw2]
    have hsz := hb.size
    simp at hsz
    have hb2 : Below (w.heap.size + 1) (w.alloc (.cells #[.int .i64 o, .int .i64 d, .int .i64 a, .int .i64 b, .int .i64 n] 71)) w2 := by
      rw [hw2]; exact below_setRow ((hb.mono (by simp)).alloc (by omega) _) (by omega) _
    have G1 : w2.heap[w1.heap.size]? = some (.cells #[Value.int .u8 kc, .int .u32 l, .int .u32 m, .int .u32 h, .string s] 79) := by
      rw [hw2]; exact setRow_heap _ _ _ _ _ _ (heap_alloc_last _ _)
    have G0 : w2.heap[w.heap.size]? = some (.cells #[.int .i64 o, .int .i64 d, .int .i64 a, .int .i64 b, .int .i64 n] 71) := by
      rw [hb2.block _ (by simp)]; exact heap_alloc_last w _
    have HB : Hid (Below w.heap.size w w2) := ((Below.refl _ _).alloc (Nat.le_refl _) _).trans (hb2.mono (by omega))
    clear hb2 hb hw2
    have q1 : w2.cell? ⟨w.heap.size, 1, none⟩ = some (.int .i64 d) := by rw [cell_of_row _ _ _ _ _ _ G0]; rfl
    have q2 : w2.cell? ⟨w.heap.size, 2, none⟩ = some (.int .i64 a) := by rw [cell_of_row _ _ _ _ _ _ G0]; rfl
    have q3 : w2.cell? ⟨w.heap.size, 3, none⟩ = some (.int .i64 b) := by rw [cell_of_row _ _ _ _ _ _ G0]; rfl
    have q4 : w2.cell? ⟨w.heap.size, 4, none⟩ = some (.int .i64 n) := by rw [cell_of_row _ _ _ _ _ _ G0]; rfl
    have p0 : w2.cell? ⟨w1.heap.size, 0, none⟩ = some (.int .u8 kc) := by rw [cell_of_row _ _ _ _ _ _ G1]; rfl
    have L0 : w.heap.size < w2.heap.size := (Array.getElem?_eq_some_iff.mp G0).1
    have L1 : w1.heap.size < w2.heap.size := (Array.getElem?_eq_some_iff.mp G1).1
    clear G0 G1)
  go_loopw [26] (fun i wr => ∃ (k : Nat), k ≤ 3 ∧ i = .int .i64 k ∧ Hid ((1 ≤ k → regOk t0 d = true) ∧ (2 ≤ k → regOk t1 a = true) ∧ (3 ≤ k → regOk t2 b = true)) ∧ Hid (Below w2.heap.size w2 wr)) (fun i _ => 3 - (intOf i).toNat)
  case atStart => exact ⟨0, by omega, rfl, ⟨fun h => by omega, fun h => by omega, fun h => by omega⟩, Below.refl _ _⟩
  case round =>
    obtain ⟨k, hk, rfl, HR, HW⟩ := hrel
    have r4 : wr.cell? ⟨w.heap.size, 4, none⟩ = some (.int .i64 n) := by rw [HW.out.cell (p := ⟨w.heap.size, 4, none⟩) L0]; exact q4
    have r0 : wr.cell? ⟨w1.heap.size, 0, none⟩ = some (.int .u8 kc) := by rw [HW.out.cell (p := ⟨w1.heap.size, 0, none⟩) L1]; exact p0
    clear q1 q2 q3 q4 p0
    have hk4 : k = 0 ∨ k = 1 ∨ k = 2 ∨ k = 3 := by omega
    rcases hk4 with rfl | rfl | rfl | rfl
    · have hix := jx0
      cases hB : (decide (0 ≤ d) && decide (d ≤ 31)) with
      | false =>
        go_wp2_with fail
        go_quiet (first | (go_at_call 47; exact Calls.quiet_of_same (hH _)) | (go_at_call 74; exact Calls.quiet_of_same (there_is hs 100 _ h0 _)))
        go_wp2_with (go_at_call 36; refine (in_is _ _ _ false hB _).mono ?_; rintro e w' ⟨rfl, rfl⟩)
        go_ret
        exact ⟨ret_bool (by simp [regOk, hB]), HB.out.trans ((below_drewN HW.out _).mono (by omega))⟩
      | true =>
        cases t0 with
        | true =>
          go_wp2_with fail
          go_quiet (first | (go_at_call 47; exact Calls.quiet_of_same (hH _)) | (go_at_call 74; exact Calls.quiet_of_same (there_is hs 100 _ h0 _)))
          go_wp2_with (go_at_call 36; refine (in_is _ _ _ true hB _).mono ?_; rintro e w' ⟨rfl, rfl⟩)
          exact ⟨⟨1, by omega, rfl, ⟨fun _ => by simp [regOk, hB], fun h => by omega, fun h => by omega⟩, below_drewN HW.out _⟩, by simp [intOf]⟩
        | false =>
          by_cases hx : d = 0
          · have hx' : (d != 0) = false := by simp [hx]
            have HX : Hid (d = 0) := hx
            clear hx
            go_wp2_with fail
            go_quiet (first | (go_at_call 47; exact Calls.quiet_of_same (hH _)) | (go_at_call 74; exact Calls.quiet_of_same (there_is hs 100 _ h0 _)))
            go_wp2_with (go_at_call 36; refine (in_is _ _ _ true hB _).mono ?_; rintro e w' ⟨rfl, rfl⟩)
            exact ⟨⟨1, by omega, rfl, ⟨fun _ => by simp [regOk, HX.out], fun h => by omega, fun h => by omega⟩, below_drewN HW.out _⟩, by simp [intOf]⟩
          · have hx' : (d != 0) = true := by simp [hx]
            have HX : Hid (¬ d = 0) := hx
            clear hx
            go_wp2_with fail
            go_quiet (first | (go_at_call 47; exact Calls.quiet_of_same (hH _)) | (go_at_call 74; exact Calls.quiet_of_same (there_is hs 100 _ h0 _)))
            go_wp2_with (go_at_call 36; refine (in_is _ _ _ true hB _).mono ?_; rintro e w' ⟨rfl, rfl⟩)
            go_ret
            exact ⟨ret_bool (by simp [regOk, hB, HX.out]), HB.out.trans ((below_drewN HW.out _).mono (by omega))⟩
    · have hix := jx1
      cases hB : (decide (0 ≤ a) && decide (a ≤ 31)) with
      | false =>
        go_wp2_with fail
        go_quiet (first | (go_at_call 47; exact Calls.quiet_of_same (hH _)) | (go_at_call 74; exact Calls.quiet_of_same (there_is hs 97 _ h1 _)))
        go_wp2_with (go_at_call 36; refine (in_is _ _ _ false hB _).mono ?_; rintro e w' ⟨rfl, rfl⟩)
        go_ret
        exact ⟨ret_bool (by simp [regOk, hB]), HB.out.trans ((below_drewN HW.out _).mono (by omega))⟩
      | true =>
        cases t1 with
        | true =>
          go_wp2_with fail
          go_quiet (first | (go_at_call 47; exact Calls.quiet_of_same (hH _)) | (go_at_call 74; exact Calls.quiet_of_same (there_is hs 97 _ h1 _)))
          go_wp2_with (go_at_call 36; refine (in_is _ _ _ true hB _).mono ?_; rintro e w' ⟨rfl, rfl⟩)
          exact ⟨⟨2, by omega, rfl, ⟨fun _ => HR.out.1 (by omega), fun _ => by simp [regOk, hB], fun h => by omega⟩, below_drewN HW.out _⟩, by simp [intOf]⟩
        | false =>
          by_cases hx : a = 0
          · have hx' : (a != 0) = false := by simp [hx]
            have HX : Hid (a = 0) := hx
            clear hx
            go_wp2_with fail
            go_quiet (first | (go_at_call 47; exact Calls.quiet_of_same (hH _)) | (go_at_call 74; exact Calls.quiet_of_same (there_is hs 97 _ h1 _)))
            go_wp2_with (go_at_call 36; refine (in_is _ _ _ true hB _).mono ?_; rintro e w' ⟨rfl, rfl⟩)
            exact ⟨⟨2, by omega, rfl, ⟨fun _ => HR.out.1 (by omega), fun _ => by simp [regOk, HX.out], fun h => by omega⟩, below_drewN HW.out _⟩, by simp [intOf]⟩
          · have hx' : (a != 0) = true := by simp [hx]
            have HX : Hid (¬ a = 0) := hx
            clear hx
            go_wp2_with fail
            go_quiet (first | (go_at_call 47; exact Calls.quiet_of_same (hH _)) | (go_at_call 74; exact Calls.quiet_of_same (there_is hs 97 _ h1 _)))
            go_wp2_with (go_at_call 36; refine (in_is _ _ _ true hB _).mono ?_; rintro e w' ⟨rfl, rfl⟩)
            go_ret
            exact ⟨ret_bool (by simp [regOk, hB, HX.out]), HB.out.trans ((below_drewN HW.out _).mono (by omega))⟩
    · have hix := jx2
      cases hB : (decide (0 ≤ b) && decide (b ≤ 31)) with
      | false =>
        go_wp2_with fail
        go_quiet (first | (go_at_call 47; exact Calls.quiet_of_same (hH _)) | (go_at_call 74; exact Calls.quiet_of_same (there_is hs 98 _ h2 _)))
        go_wp2_with (go_at_call 36; refine (in_is _ _ _ false hB _).mono ?_; rintro e w' ⟨rfl, rfl⟩)
        go_ret
        exact ⟨ret_bool (by simp [regOk, hB]), HB.out.trans ((below_drewN HW.out _).mono (by omega))⟩
      | true =>
        cases t2 with
        | true =>
          go_wp2_with fail
          go_quiet (first | (go_at_call 47; exact Calls.quiet_of_same (hH _)) | (go_at_call 74; exact Calls.quiet_of_same (there_is hs 98 _ h2 _)))
          go_wp2_with (go_at_call 36; refine (in_is _ _ _ true hB _).mono ?_; rintro e w' ⟨rfl, rfl⟩)
          exact ⟨⟨3, by omega, rfl, ⟨fun _ => HR.out.1 (by omega), fun _ => HR.out.2.1 (by omega), fun _ => by simp [regOk, hB]⟩, below_drewN HW.out _⟩, by simp [intOf]⟩
        | false =>
          by_cases hx : b = 0
          · have hx' : (b != 0) = false := by simp [hx]
            have HX : Hid (b = 0) := hx
            clear hx
            go_wp2_with fail
            go_quiet (first | (go_at_call 47; exact Calls.quiet_of_same (hH _)) | (go_at_call 74; exact Calls.quiet_of_same (there_is hs 98 _ h2 _)))
            go_wp2_with (go_at_call 36; refine (in_is _ _ _ true hB _).mono ?_; rintro e w' ⟨rfl, rfl⟩)
            exact ⟨⟨3, by omega, rfl, ⟨fun _ => HR.out.1 (by omega), fun _ => HR.out.2.1 (by omega), fun _ => by simp [regOk, HX.out]⟩, below_drewN HW.out _⟩, by simp [intOf]⟩
          · have hx' : (b != 0) = true := by simp [hx]
            have HX : Hid (¬ b = 0) := hx
            clear hx
            go_wp2_with fail
            go_quiet (first | (go_at_call 47; exact Calls.quiet_of_same (hH _)) | (go_at_call 74; exact Calls.quiet_of_same (there_is hs 98 _ h2 _)))
            go_wp2_with (go_at_call 36; refine (in_is _ _ _ true hB _).mono ?_; rintro e w' ⟨rfl, rfl⟩)
            go_ret
            exact ⟨ret_bool (by simp [regOk, hB, HX.out]), HB.out.trans ((below_drewN HW.out _).mono (by omega))⟩
    · have HA : Hid (regOk t0 d = true ∧ regOk t1 a = true ∧ regOk t2 b = true) := ⟨HR.out.1 (by omega), HR.out.2.1 (by omega), HR.out.2.2 (by omega)⟩
      clear h0 h1 h2 hH
      go_wp2_with fail
      refine (hS _).mono ?_
      rintro e w' ⟨rfl, rfl⟩
      clear hS hF
      rcases hT with ⟨rfl, rfl⟩ | ⟨hk, rfl, rfl⟩ | ⟨hk, rfl, rfl, rfl⟩ | ⟨hk, rfl, rfl, rfl⟩ | ⟨hk, rfl, rfl, rfl⟩ | ⟨hk, rfl, rfl, rfl⟩
      · go_wp2_with (go_at_call 36; refine (in_is _ _ _ _ rfl _).mono ?_; rintro e w' ⟨rfl, rfl⟩)
        go_ret
        exact ⟨ret_bool (by simp [HA.out.1, HA.out.2.1, HA.out.2.2]), HB.out.trans (HW.out.mono (by omega))⟩
      · go_wp2
        go_ret
        exact ⟨ret_bool (by simp [HA.out.1, HA.out.2.1, HA.out.2.2]), HB.out.trans (HW.out.mono (by omega))⟩
      · cases hB : (decide (-2048 ≤ n) && decide (n ≤ 2047)) with
        | false =>
          go_wp2_with (go_at_call 36; refine (in_is _ _ _ false hB _).mono ?_; rintro e w' ⟨rfl, rfl⟩)
          go_ret
          exact ⟨ret_bool (by simp [HA.out.1, HA.out.2.1, HA.out.2.2, hB]), HB.out.trans (HW.out.mono (by omega))⟩
        | true =>
          go_wp2_with (go_at_call 36; refine (in_is _ _ _ true hB _).mono ?_; rintro e w' ⟨rfl, rfl⟩)
          go_ret
          exact ⟨ret_bool (by simp [HA.out.1, HA.out.2.1, HA.out.2.2, hB]), HB.out.trans (HW.out.mono (by omega))⟩
      · cases hB : (decide (-4096 ≤ n) && decide (n ≤ 4095)) with
        | false =>
          go_wp2_with (go_at_call 36; refine (in_is _ _ _ false hB _).mono ?_; rintro e w' ⟨rfl, rfl⟩)
          go_ret
          exact ⟨ret_bool (by simp [HA.out.1, HA.out.2.1, HA.out.2.2, hB]), HB.out.trans (HW.out.mono (by omega))⟩
        | true =>
          go_wp2_with (go_at_call 36; refine (in_is _ _ _ true hB _).mono ?_; rintro e w' ⟨rfl, rfl⟩)
          go_ret
          exact ⟨ret_bool (by simp [HA.out.1, HA.out.2.1, HA.out.2.2, hB]), HB.out.trans (HW.out.mono (by omega))⟩
      · cases hB : (decide (-2147483648 ≤ n) && decide (n ≤ 2147483647)) with
        | false =>
          go_wp2_with (go_at_call 36; refine (in_is _ _ _ false hB _).mono ?_; rintro e w' ⟨rfl, rfl⟩)
          go_ret
          exact ⟨ret_bool (by simp [HA.out.1, HA.out.2.1, HA.out.2.2, hB]), HB.out.trans (HW.out.mono (by omega))⟩
        | true =>
          go_wp2_with (go_at_call 36; refine (in_is _ _ _ true hB _).mono ?_; rintro e w' ⟨rfl, rfl⟩)
          go_ret
          exact ⟨ret_bool (by simp [HA.out.1, HA.out.2.1, HA.out.2.2, hB]), HB.out.trans (HW.out.mono (by omega))⟩
      · cases hB : (decide (-1048576 ≤ n) && decide (n ≤ 1048575)) with
        | false =>
          go_wp2_with (go_at_call 36; refine (in_is _ _ _ false hB _).mono ?_; rintro e w' ⟨rfl, rfl⟩)
          go_ret
          exact ⟨ret_bool (by simp [HA.out.1, HA.out.2.1, HA.out.2.2, hB]), HB.out.trans (HW.out.mono (by omega))⟩
        | true =>
          go_wp2_with (go_at_call 36; refine (in_is _ _ _ true hB _).mono ?_; rintro e w' ⟨rfl, rfl⟩)
          go_ret
          exact ⟨ret_bool (by simp [HA.out.1, HA.out.2.1, HA.out.2.2, hB]), HB.out.trans (HW.out.mono (by omega))⟩
end Go.Proofs.YtaodcpdkobhmfaaDoor

namespace Go.Proofs.YtaodcpdkobhmfaaDoor
open Go Go.RowKit

theorem fit_reg (t : Bool) (x : Int) : regOk t x = fitB x t := by
  rw [Bool.eq_iff_iff]
  cases t <;> simp [regOk, fitB] <;> omega
theorem tm_iff (n p : Int) : n.tmod p = 0 ↔ n % p = 0 :=
  ⟨fun h => Int.emod_eq_zero_of_dvd (Int.dvd_of_tmod_eq_zero h), fun h => Int.tmod_eq_zero_of_dvd (Int.dvd_of_emod_eq_zero h)⟩
theorem nf_0 (n : Int) : (n == 0) = nfB n sh0 := by
  rw [Bool.eq_iff_iff, nf_iff n sh0 0 (by omega) (by decide)]
  simp [Sh.lo, Sh.hi, sh0]
  omega
theorem nf_1 (n : Int) : (decide (-2048 ≤ n) && decide (n ≤ 2047)) = nfB n sh1 := by
  rw [Bool.eq_iff_iff, nf_iff n sh1 0 (by omega) (by decide)]
  simp [Sh.lo, Sh.hi, sh1]
  omega
theorem nf_2 (n : Int) : (decide (0 ≤ n) && decide (n ≤ 63)) = nfB n sh2 := by
  rw [Bool.eq_iff_iff, nf_iff n sh2 0 (by omega) (by decide)]
  simp [Sh.lo, Sh.hi, sh2]
  omega
theorem nf_3 (n : Int) : (decide (-2048 ≤ n) && decide (n ≤ 2047)) = nfB n sh3 := by
  rw [Bool.eq_iff_iff, nf_iff n sh3 0 (by omega) (by decide)]
  simp [Sh.lo, Sh.hi, sh3]
  omega
theorem nf_4 (n : Int) : (decide (-4096 ≤ n) && decide (n ≤ 4095) && (n.tmod 2 == 0)) = nfB n sh4 := by
  rw [Bool.eq_iff_iff, nf_iff n sh4 1 (by omega) (by decide)]
  simp [Sh.lo, Sh.hi, sh4, tm_iff]
  omega
theorem nf_5 (n : Int) : (decide (-2147483648 ≤ n) && decide (n ≤ 2147483647) && (n.tmod 4096 == 0)) = nfB n sh5 := by
  rw [Bool.eq_iff_iff, nf_iff n sh5 12 (by omega) (by decide)]
  simp [Sh.lo, Sh.hi, sh5, tm_iff]
  omega
theorem nf_6 (n : Int) : (decide (-1048576 ≤ n) && decide (n ≤ 1048575) && (n.tmod 2 == 0)) = nfB n sh6 := by
  rw [Bool.eq_iff_iff, nf_iff n sh6 1 (by omega) (by decide)]
  simp [Sh.lo, Sh.hi, sh6, tm_iff]
  omega
theorem nf_7 (n : Int) : (n == 0) = nfB n sh7 := by
  rw [Bool.eq_iff_iff, nf_iff n sh7 0 (by omega) (by decide)]
  simp [Sh.lo, Sh.hi, sh7]
  omega
theorem rightk_0 (o d a b n l m h : Int) (w : World) (hF : FormIs o 82 l m h) :
    Calls Tryd.prog 67 #[instV o d a b n] w fun e w' => e = .returned (.bool (rightB d a b n sh0)) ∧ Below w.heap.size w w' := by
  have e : rightB d a b n sh0 = (regOk sh0.rd d && regOk sh0.ra a && regOk sh0.rb b && nfB n sh0) := by simp only [rightB, fit_reg]
  rw [e, ← nf_0]
  exact right_core o d a b n 82 l m h _ _ ⟨#[100, 97, 98]⟩ _ _ _ _ w hF has_0 signs_0 (by decide) (by decide) (by decide) (.z _ _ (by decide))
theorem rightk_1 (o d a b n l m h : Int) (w : World) (hF : FormIs o 73 l m h) :
    Calls Tryd.prog 67 #[instV o d a b n] w fun e w' => e = .returned (.bool (rightB d a b n sh1)) ∧ Below w.heap.size w w' := by
  have e : rightB d a b n sh1 = (regOk sh1.rd d && regOk sh1.ra a && regOk sh1.rb b && nfB n sh1) := by simp only [rightB, fit_reg]
  rw [e, ← nf_1]
  exact right_core o d a b n 73 l m h _ _ ⟨#[100, 97]⟩ _ _ _ _ w hF has_1 signs_1 (by decide) (by decide) (by decide) (.i _ (by decide))
theorem rightk_2 (o d a b n l m h : Int) (w : World) (hF : FormIs o 72 l m h) :
    Calls Tryd.prog 67 #[instV o d a b n] w fun e w' => e = .returned (.bool (rightB d a b n sh2)) ∧ Below w.heap.size w w' := by
  have e : rightB d a b n sh2 = (regOk sh2.rd d && regOk sh2.ra a && regOk sh2.rb b && nfB n sh2) := by simp only [rightB, fit_reg]
  rw [e, ← nf_2]
  exact right_core o d a b n 72 l m h _ _ ⟨#[100, 97]⟩ _ _ _ _ w hF has_2 signs_2 (by decide) (by decide) (by decide) (.h _ _)
theorem rightk_3 (o d a b n l m h : Int) (w : World) (hF : FormIs o 83 l m h) :
    Calls Tryd.prog 67 #[instV o d a b n] w fun e w' => e = .returned (.bool (rightB d a b n sh3)) ∧ Below w.heap.size w w' := by
  have e : rightB d a b n sh3 = (regOk sh3.rd d && regOk sh3.ra a && regOk sh3.rb b && nfB n sh3) := by simp only [rightB, fit_reg]
  rw [e, ← nf_3]
  exact right_core o d a b n 83 l m h _ _ ⟨#[97, 98]⟩ _ _ _ _ w hF has_3 signs_3 (by decide) (by decide) (by decide) (.i _ (by decide))
theorem rightk_4 (o d a b n l m h : Int) (w : World) (hF : FormIs o 66 l m h) :
    Calls Tryd.prog 67 #[instV o d a b n] w fun e w' => e = .returned (.bool (rightB d a b n sh4)) ∧ Below w.heap.size w w' := by
  have e : rightB d a b n sh4 = (regOk sh4.rd d && regOk sh4.ra a && regOk sh4.rb b && nfB n sh4) := by simp only [rightB, fit_reg]
  rw [e, ← nf_4]
  exact right_core o d a b n 66 l m h _ _ ⟨#[97, 98]⟩ _ _ _ _ w hF has_4 signs_4 (by decide) (by decide) (by decide) (.b _ (by decide))
theorem rightk_5 (o d a b n l m h : Int) (w : World) (hF : FormIs o 85 l m h) :
    Calls Tryd.prog 67 #[instV o d a b n] w fun e w' => e = .returned (.bool (rightB d a b n sh5)) ∧ Below w.heap.size w w' := by
  have e : rightB d a b n sh5 = (regOk sh5.rd d && regOk sh5.ra a && regOk sh5.rb b && nfB n sh5) := by simp only [rightB, fit_reg]
  rw [e, ← nf_5]
  exact right_core o d a b n 85 l m h _ _ ⟨#[100]⟩ _ _ _ _ w hF has_5 signs_5 (by decide) (by decide) (by decide) (.u _ (by decide))
theorem rightk_6 (o d a b n l m h : Int) (w : World) (hF : FormIs o 74 l m h) :
    Calls Tryd.prog 67 #[instV o d a b n] w fun e w' => e = .returned (.bool (rightB d a b n sh6)) ∧ Below w.heap.size w w' := by
  have e : rightB d a b n sh6 = (regOk sh6.rd d && regOk sh6.ra a && regOk sh6.rb b && nfB n sh6) := by simp only [rightB, fit_reg]
  rw [e, ← nf_6]
  exact right_core o d a b n 74 l m h _ _ ⟨#[100]⟩ _ _ _ _ w hF has_6 signs_6 (by decide) (by decide) (by decide) (.j _ (by decide))
theorem rightk_7 (o d a b n l m h : Int) (w : World) (hF : FormIs o 69 l m h) :
    Calls Tryd.prog 67 #[instV o d a b n] w fun e w' => e = .returned (.bool (rightB d a b n sh7)) ∧ Below w.heap.size w w' := by
  have e : rightB d a b n sh7 = (regOk sh7.rd d && regOk sh7.ra a && regOk sh7.rb b && nfB n sh7) := by simp only [rightB, fit_reg]
  rw [e, ← nf_7]
  exact right_core o d a b n 69 l m h _ _ ⟨#[]⟩ _ _ _ _ w hF has_7 signs_7 (by decide) (by decide) (by decide) (.z _ _ (by decide))
theorem right_doc_in (o : Nat) (h1 : 1 ≤ o) (h2 : o ≤ 31) (d a b n : Int) (w : World) :
    Calls Tryd.prog 67 #[instV o d a b n] w fun e w' => e = .returned (.bool (rightB d a b n (T.sh (T.kd o)))) ∧ Below w.heap.size w w' := by
  have hc : o = 1 ∨ o = 2 ∨ o = 3 ∨ o = 4 ∨ o = 5 ∨ o = 6 ∨ o = 7 ∨ o = 8 ∨ o = 9 ∨ o = 10 ∨ o = 11 ∨ o = 12 ∨ o = 13 ∨ o = 14 ∨ o = 15 ∨ o = 16 ∨ o = 17 ∨ o = 18 ∨ o = 19 ∨ o = 20 ∨ o = 21 ∨ o = 22 ∨ o = 23 ∨ o = 24 ∨ o = 25 ∨ o = 26 ∨ o = 27 ∨ o = 28 ∨ o = 29 ∨ o = 30 ∨ o = 31 := by omega
  rcases hc with rfl | rfl | rfl | rfl | rfl | rfl | rfl | rfl | rfl | rfl | rfl | rfl | rfl | rfl | rfl | rfl | rfl | rfl | rfl | rfl | rfl | rfl | rfl | rfl | rfl | rfl | rfl | rfl | rfl | rfl | rfl
  · exact rightk_0 _ d a b n _ _ _ w formOf_1
  · exact rightk_0 _ d a b n _ _ _ w formOf_2
  · exact rightk_0 _ d a b n _ _ _ w formOf_3
  · exact rightk_0 _ d a b n _ _ _ w formOf_4
  · exact rightk_0 _ d a b n _ _ _ w formOf_5
  · exact rightk_0 _ d a b n _ _ _ w formOf_6
  · exact rightk_0 _ d a b n _ _ _ w formOf_7
  · exact rightk_0 _ d a b n _ _ _ w formOf_8
  · exact rightk_0 _ d a b n _ _ _ w formOf_9
  · exact rightk_0 _ d a b n _ _ _ w formOf_10
  · exact rightk_0 _ d a b n _ _ _ w formOf_11
  · exact rightk_0 _ d a b n _ _ _ w formOf_12
  · exact rightk_0 _ d a b n _ _ _ w formOf_13
  · exact rightk_1 _ d a b n _ _ _ w formOf_14
  · exact rightk_1 _ d a b n _ _ _ w formOf_15
  · exact rightk_1 _ d a b n _ _ _ w formOf_16
  · exact rightk_1 _ d a b n _ _ _ w formOf_17
  · exact rightk_1 _ d a b n _ _ _ w formOf_18
  · exact rightk_2 _ d a b n _ _ _ w formOf_19
  · exact rightk_2 _ d a b n _ _ _ w formOf_20
  · exact rightk_2 _ d a b n _ _ _ w formOf_21
  · exact rightk_1 _ d a b n _ _ _ w formOf_22
  · exact rightk_1 _ d a b n _ _ _ w formOf_23
  · exact rightk_3 _ d a b n _ _ _ w formOf_24
  · exact rightk_4 _ d a b n _ _ _ w formOf_25
  · exact rightk_4 _ d a b n _ _ _ w formOf_26
  · exact rightk_4 _ d a b n _ _ _ w formOf_27
  · exact rightk_4 _ d a b n _ _ _ w formOf_28
  · exact rightk_5 _ d a b n _ _ _ w formOf_29
  · exact rightk_6 _ d a b n _ _ _ w formOf_30
  · exact rightk_7 _ d a b n _ _ _ w formOf_31

set_option maxRecDepth 100000 in
set_option maxHeartbeats 4000000 in
theorem formOf_out (o : Int) (ho : o < 1 ∨ 31 < o) (w : World) : Calls Tryd.prog 33 #[.int .i64 o] w fun e w' => e = .returned (.tuple #[.agg zero45, .bool false]) ∧ Below w.heap.size w w' := by
  have e1 : (o == 1) = false := by simp; omega
  have e2 : (o == 2) = false := by simp; omega
  have e3 : (o == 3) = false := by simp; omega
  have e4 : (o == 4) = false := by simp; omega
  have e5 : (o == 5) = false := by simp; omega
  have e6 : (o == 6) = false := by simp; omega
  have e7 : (o == 7) = false := by simp; omega
  have e8 : (o == 8) = false := by simp; omega
  have e9 : (o == 9) = false := by simp; omega
  have e10 : (o == 10) = false := by simp; omega
  have e11 : (o == 11) = false := by simp; omega
  have e12 : (o == 12) = false := by simp; omega
  have e13 : (o == 13) = false := by simp; omega
  have e14 : (o == 14) = false := by simp; omega
  have e15 : (o == 15) = false := by simp; omega
  have e16 : (o == 16) = false := by simp; omega
  have e17 : (o == 17) = false := by simp; omega
  have e18 : (o == 18) = false := by simp; omega
  have e19 : (o == 19) = false := by simp; omega
  have e20 : (o == 20) = false := by simp; omega
  have e21 : (o == 21) = false := by simp; omega
  have e22 : (o == 22) = false := by simp; omega
  have e23 : (o == 23) = false := by simp; omega
  have e24 : (o == 24) = false := by simp; omega
  have e25 : (o == 25) = false := by simp; omega
  have e26 : (o == 26) = false := by simp; omega
  have e27 : (o == 27) = false := by simp; omega
  have e28 : (o == 28) = false := by simp; omega
  have e29 : (o == 29) = false := by simp; omega
  have e30 : (o == 30) = false := by simp; omega
  have e31 : (o == 31) = false := by simp; omega
  clear ho
  go_enter Tryd.func33, Tryd.ntmps33
  go_wp2_with fail
  exact bodyPost_ret (res45 _ _ _ Tryd.results33 _ _ w.heap.size _ _ _ _ _ rfl (heap_alloc_last w _)) rfl ⟨rfl, (Below.refl _ _).alloc (Nat.le_refl _) _⟩

set_option maxRecDepth 100000 in
set_option maxHeartbeats 4000000 in
theorem right_doc_out (o d a b n : Int) (ho : o < 1 ∨ 31 < o) (w : World) :
    Calls Tryd.prog 67 #[instV o d a b n] w fun e w' => e = .returned (.bool false) ∧ Below w.heap.size w w' := by
  go_enter Tryd.func67, Tryd.ntmps67
  go_wp2_with fail
  refine (formOf_out o ho _).mono ?_
  rintro e w1 ⟨rfl, hb⟩
  have hsz := hb.size
  simp at hsz
  have HB : Hid (Below w.heap.size w w1) := ((Below.refl _ _).alloc (Nat.le_refl _) _).trans (hb.mono (by simp))
  clear hb
  go_wp2_with (
    refine wpList_store_row rfl 79 _ _ rfl _ 79 _ _ rfl rfl (heap_alloc_last _ _) (by kernel_rfl) rfl (one45 _ _ _ _ _) ?_)
  go_ret
  exact ⟨rfl, below_setRow (HB.out.alloc (by omega) _) (by omega) _⟩

theorem right_doc (o d a b n : Int) (w : World) :
    Calls Tryd.prog 67 #[instV o d a b n] w fun e w' => e = .returned (.bool (Rt o d a b n)) ∧ Below w.heap.size w w' := by
  by_cases h1 : 1 ≤ o
  · by_cases h2 : o ≤ 31
    · obtain ⟨k, rfl⟩ := Int.eq_ofNat_of_zero_le (show 0 ≤ o by omega)
      have e : Rt (k : Int) d a b n = rightB d a b n (T.sh (T.kd k)) := by simp [Rt, h1, h2]
      rw [e]
      exact right_doc_in k (by omega) (by omega) d a b n w
    · have e : Rt o d a b n = false := by simp [Rt, h2]
      rw [e]
      exact right_doc_out o d a b n (.inr (by omega)) w
  · have e : Rt o d a b n = false := by simp [Rt, h1]
    rw [e]
    exact right_doc_out o d a b n (.inl (by omega)) w
end Go.Proofs.YtaodcpdkobhmfaaDoor

namespace Go.Proofs.YtaodcpdkobhmfaaDoor
open Go Go.RowKit

/-- Pieces, as cells. -/
def pieceCells (l : List (Int × Int × Int)) : List Value := l.flatMap fun p => [.int .i64 p.1, .int .i64 p.2.1, .int .i64 p.2.2]
def piecesL : List (List (Int × Int × Int)) := [[], [(0, 12, 20)], [(0, 6, 20)], [(0, 5, 7), (5, 7, 25)], [(11, 1, 7), (1, 4, 8), (5, 6, 25), (12, 1, 31)], [(12, 20, 12)], [(12, 8, 12), (11, 1, 20), (1, 10, 21), (20, 1, 31)], []]
set_option maxHeartbeats 1000000 in
theorem pieces_0 (w : World) : Calls Tryd.prog 48 #[.int .u8 82] w fun e w' => e = .returned (.slice none 0 0) ∧ w' = w := by
  go_enter Tryd.func48, Tryd.ntmps48
  go_wp2
  go_ret
  exact ⟨rfl, rfl⟩
set_option maxHeartbeats 1000000 in
theorem pieces_1 (w : World) : Calls Tryd.prog 48 #[.int .u8 73] w fun e w' => e = .returned (.slice (some ⟨w.heap.size, 0, none⟩) 1 1) ∧ w' = w.alloc (.cells #[.int .i64 0, .int .i64 12, .int .i64 20] 97) := by
  go_enter Tryd.func48, Tryd.ntmps48
  go_wp2
  go_ret
  exact ⟨rfl, rfl⟩
set_option maxHeartbeats 1000000 in
theorem pieces_2 (w : World) : Calls Tryd.prog 48 #[.int .u8 72] w fun e w' => e = .returned (.slice (some ⟨w.heap.size, 0, none⟩) 1 1) ∧ w' = w.alloc (.cells #[.int .i64 0, .int .i64 6, .int .i64 20] 97) := by
  go_enter Tryd.func48, Tryd.ntmps48
  go_wp2
  go_ret
  exact ⟨rfl, rfl⟩
set_option maxHeartbeats 1000000 in
theorem pieces_3 (w : World) : Calls Tryd.prog 48 #[.int .u8 83] w fun e w' => e = .returned (.slice (some ⟨w.heap.size, 0, none⟩) 2 2) ∧ w' = w.alloc (.cells #[.int .i64 0, .int .i64 5, .int .i64 7, .int .i64 5, .int .i64 7, .int .i64 25] 97) := by
  go_enter Tryd.func48, Tryd.ntmps48
  go_wp2
  go_ret
  exact ⟨rfl, rfl⟩
set_option maxHeartbeats 1000000 in
theorem pieces_4 (w : World) : Calls Tryd.prog 48 #[.int .u8 66] w fun e w' => e = .returned (.slice (some ⟨w.heap.size, 0, none⟩) 4 4) ∧ w' = w.alloc (.cells #[.int .i64 11, .int .i64 1, .int .i64 7, .int .i64 1, .int .i64 4, .int .i64 8, .int .i64 5, .int .i64 6, .int .i64 25, .int .i64 12, .int .i64 1, .int .i64 31] 97) := by
  go_enter Tryd.func48, Tryd.ntmps48
  go_wp2
  go_ret
  exact ⟨rfl, rfl⟩
set_option maxHeartbeats 1000000 in
theorem pieces_5 (w : World) : Calls Tryd.prog 48 #[.int .u8 85] w fun e w' => e = .returned (.slice (some ⟨w.heap.size, 0, none⟩) 1 1) ∧ w' = w.alloc (.cells #[.int .i64 12, .int .i64 20, .int .i64 12] 97) := by
  go_enter Tryd.func48, Tryd.ntmps48
  go_wp2
  go_ret
  exact ⟨rfl, rfl⟩
set_option maxHeartbeats 1000000 in
theorem pieces_6 (w : World) : Calls Tryd.prog 48 #[.int .u8 74] w fun e w' => e = .returned (.slice (some ⟨w.heap.size, 0, none⟩) 4 4) ∧ w' = w.alloc (.cells #[.int .i64 12, .int .i64 8, .int .i64 12, .int .i64 11, .int .i64 1, .int .i64 20, .int .i64 1, .int .i64 10, .int .i64 21, .int .i64 20, .int .i64 1, .int .i64 31] 97) := by
  go_enter Tryd.func48, Tryd.ntmps48
  go_wp2
  go_ret
  exact ⟨rfl, rfl⟩
set_option maxHeartbeats 1000000 in
theorem pieces_7 (w : World) : Calls Tryd.prog 48 #[.int .u8 69] w fun e w' => e = .returned (.slice none 0 0) ∧ w' = w := by
  go_enter Tryd.func48, Tryd.ntmps48
  go_wp2
  go_ret
  exact ⟨rfl, rfl⟩
end Go.Proofs.YtaodcpdkobhmfaaDoor

namespace Go.Proofs.YtaodcpdkobhmfaaDoor
open Go Go.RowKit
theorem bit_step (n : Int) (f q : Nat) : n / (2 : Int) ^ f % (2 : Int) ^ (q + 1) = n / (2 : Int) ^ f % (2 : Int) ^ q + n / (2 : Int) ^ (f + q) % 2 * (2 : Int) ^ q := by
  have hp : 0 < (2 : Int) ^ q := by exact_mod_cast Nat.two_pow_pos q
  have hf : 0 ≤ (2 : Int) ^ f := by have : 0 < (2 : Int) ^ f := by exact_mod_cast Nat.two_pow_pos f
                                    omega
  rw [Int.pow_add 2 f q, ← Int.ediv_ediv_of_nonneg hf, Int.pow_succ]
  generalize n / (2 : Int) ^ f = x
  generalize (2 : Int) ^ q = P at hp
  have e1 := Int.emod_add_mul_ediv x P
  have e2 := Int.emod_add_mul_ediv (x / P) 2
  have b1 := Int.emod_nonneg x (Int.ne_of_gt hp)
  have b2 := Int.emod_lt_of_pos x hp
  generalize x / P = a at e1 e2
  generalize x % P = r at e1 b1 b2
  have e3 : x = (r + a % 2 * P) + P * 2 * (a / 2) := by
    rw [← e1]
    conv => lhs; rw [← e2]
    rw [Int.mul_add, Int.mul_assoc, Int.mul_comm P (a % 2)]
    omega
  rw [e3, Int.add_mul_emod_self_left]
  have hm : a % 2 = 0 ∨ a % 2 = 1 := by omega
  rcases hm with hm | hm <;> rw [hm] <;> exact Int.emod_eq_of_lt (by omega) (by omega)
theorem shl1 (t : Nat) (h : t ≤ 31) (w : World) : Sem.run Tryd.prog (Op.shift .shl .u32 1 .i64 (t : Int)) w = .ok (.int .u32 ((2 : Int) ^ t)) w := by
  have hc : t = 0 ∨ t = 1 ∨ t = 2 ∨ t = 3 ∨ t = 4 ∨ t = 5 ∨ t = 6 ∨ t = 7 ∨ t = 8 ∨ t = 9 ∨ t = 10 ∨ t = 11 ∨ t = 12 ∨ t = 13 ∨ t = 14 ∨ t = 15 ∨ t = 16 ∨ t = 17 ∨ t = 18 ∨ t = 19 ∨ t = 20 ∨ t = 21 ∨ t = 22 ∨ t = 23 ∨ t = 24 ∨ t = 25 ∨ t = 26 ∨ t = 27 ∨ t = 28 ∨ t = 29 ∨ t = 30 ∨ t = 31 := by omega
  rcases hc with rfl | rfl | rfl | rfl | rfl | rfl | rfl | rfl | rfl | rfl | rfl | rfl | rfl | rfl | rfl | rfl | rfl | rfl | rfl | rfl | rfl | rfl | rfl | rfl | rfl | rfl | rfl | rfl | rfl | rfl | rfl | rfl <;> (clear h; first | rfl | kernel_rfl)
theorem and1 (x : Int) : bits .and .i64 x 1 = x % 2 := and64 x 1 (by omega)
def psum (n : Int) (F C T : Nat → Nat) (y0 : Int) : Nat → Int
  | 0 => y0
  | j + 1 => (psum n F C T y0 j + n / (2 : Int) ^ F j % (2 : Int) ^ C j * (2 : Int) ^ T j) % 4294967296
theorem psum_mod (n : Int) (F C T : Nat → Nat) (y0 : Int) (h : y0 % 4294967296 = y0) (j : Nat) : psum n F C T y0 j % 4294967296 = psum n F C T y0 j := by
  cases j with
  | zero => exact h
  | succ j => simp [psum]
end Go.Proofs.YtaodcpdkobhmfaaDoor

namespace Go.Proofs.YtaodcpdkobhmfaaDoor
open Go Go.RowKit
abbrev FormAt (o kc l m h : Int) : Prop := ∀ w, Calls Tryd.prog 33 #[.int .i64 o] w fun e w' => (∃ s, e = .returned (.tuple #[formV kc l m h s, .bool true])) ∧ Below w.heap.size w w'
def chV (d a b : Int) (c : Nat) : Int := if c = 100 then d * 128 else if c = 97 then a * 32768 else b * 1048576
def strV (z d a b : Int) (l : List UInt8) : Int := l.foldl (fun z c => (z + chV d a b c.toNat) % 4294967296) z
theorem strV_step (z d a b : Int) (s : ByteArray) (p : Nat) (h : p < s.size) : strV z d a b (s.data.toList.take (p + 1)) = (strV z d a b (s.data.toList.take p) + chV d a b (s[p]'h).toNat) % 4294967296 := by
  have h' : p < s.data.toList.length := by simpa using h
  rw [List.take_succ_eq_append_getElem h', strV, List.foldl_append]
  rfl
def iterPos (w : World) (b : Nat) : Nat := match w.heap[b]? with | some (.stringIter _ p) => p | _ => 0
theorem iterPos_iter (w : World) (s : ByteArray) (p : Nat) : iterPos (w.iter s p) w.heap.size = p := by simp [iterPos, World.iter_heap]
theorem iter_cell (w : World) (s : ByteArray) (p g i : Nat) (cs : Array Value) (t : TypeId) (hg : w.heap[g]? = some (.cells cs t)) : (w.iter s p).cell? ⟨g, i, none⟩ = w.cell? ⟨g, i, none⟩ :=
  ((Below.refl w.heap.size w).alloc (Nat.le_refl _) _).cell (p := ⟨g, i, none⟩) (Array.getElem?_eq_some_iff.mp hg).1
set_option maxRecDepth 100000 in
set_option maxHeartbeats 8000000 in
theorem enc_core (o d a b n kc l m h z0 : Int) (hs : ByteArray) (w : World) (hF : FormAt o kc l m h)
    (hR : ∀ w, Calls Tryd.prog 67 #[instV o d a b n] w fun e w' => e = .returned (.bool true) ∧ Below w.heap.size w w')
    (hH : ∀ w, Calls Tryd.prog 47 #[.int .u8 kc] w fun e w' => e = .returned (.string hs) ∧ w' = w)
    (ha : ∀ p (h : p < hs.size), (hs[p]'h).toNat < 128) (hd : 0 ≤ d ∧ d < 32) (hra : 0 ≤ a ∧ a < 32) (hrb : 0 ≤ b ∧ b < 32)
    (np : Nat) (hnp : np ≤ 4) (cs : Array Value) (F C T : Nat → Nat)
    (hP : ∀ w, Calls Tryd.prog 48 #[.int .u8 kc] w fun e w' => e = .returned (.slice (some ⟨w.heap.size, 0, none⟩) np np) ∧ w' = w.alloc (.cells cs 97))
    (hcs : ∀ j, j < np → cs[j * 3]? = some (.int .i64 (F j)) ∧ cs[j * 3 + 1]? = some (.int .i64 (C j)) ∧ cs[j * 3 + 2]? = some (.int .i64 (T j)))
    (hfc : ∀ j, j < np → F j ≤ 20 ∧ C j ≤ 20 ∧ T j ≤ 31 ∧ T j + C j ≤ 32)
    (hz0 : z0 = psum n F C T ((strV ((l + m * 4096) % 4294967296) d a b hs.data.toList + h * 33554432) % 4294967296) np)
    (hk1 : (kc != 85) = true) (hk2 : (kc != 74) = true) (hk3 : (kc != 69) = true) :
    Calls Tryd.prog 50 #[instV o d a b n] w fun e w' => e = .returned (.tuple #[.int .u32 z0, .int .i64 0]) ∧ Below w.heap.size w w' := by
  go_enter Tryd.func50, Tryd.ntmps50
  go_wp2_with (go_at_call 67; fail)
  refine (hR _).mono ?_
  rintro e w0 ⟨rfl, hb0⟩
  have hb0' : Below (w.heap.size + 1) (w.alloc (.cells #[.int .i64 o, .int .i64 d, .int .i64 a, .int .i64 b, .int .i64 n] 71)) w0 := hb0.mono (by simp)
  have hsz0 := hb0'.size
  simp at hsz0
  have G : w0.heap[w.heap.size]? = some (.cells #[.int .i64 o, .int .i64 d, .int .i64 a, .int .i64 b, .int .i64 n] 71) := by
    rw [hb0'.block _ (by simp)]; exact heap_alloc_last w _
  have c0 : w0.cell? ⟨w.heap.size, 0, none⟩ = some (.int .i64 o) := by rw [cell_of_row _ _ _ _ _ _ G]; rfl
  have HB0 : Hid (Below w.heap.size w w0) := ((Below.refl _ _).alloc (Nat.le_refl _) _).trans (hb0'.mono (by omega))
  have HG : Hid (w0.heap[w.heap.size]? = some (.cells #[.int .i64 o, .int .i64 d, .int .i64 a, .int .i64 b, .int .i64 n] 71)) := G
  clear hb0 hb0' G
  go_wp2_with (go_at_call 33; fail)
  refine (hF _).mono ?_
  rintro e w1 ⟨⟨s, rfl⟩, hb⟩
  go_wp2_with (first
    | (refine wpList_store_row rfl 79 _ _ rfl _ 79 _ _ rfl rfl (heap_alloc_last _ _) (by kernel_rfl) rfl (one45 _ _ _ _ _) ?_
       obtain ⟨w2, hw2⟩ : ∃ w2, w2 = (w1.alloc (.cells zero45 79)).setRow w1.heap.size #[Value.int .u8 kc, .int .u32 l, .int .u32 m, .int .u32 h, .string s] := ⟨_, rfl⟩
       rw [← hw2]
       have hsz := hb.size
       have hb2 : Below w0.heap.size w0 w2 := by
         rw [hw2]; exact below_setRow (hb.alloc (by omega) _) (by omega) _
       have G1 : w2.heap[w1.heap.size]? = some (.cells #[Value.int .u8 kc, .int .u32 l, .int .u32 m, .int .u32 h, .string s] 79) := by
         rw [hw2]; exact setRow_heap _ _ _ _ _ _ (heap_alloc_last _ _)
       have G0 : w2.heap[w.heap.size]? = some (.cells #[.int .i64 o, .int .i64 d, .int .i64 a, .int .i64 b, .int .i64 n] 71) := by
         rw [hb2.block _ (by omega)]; exact HG.out
       have HB : Hid (Below w.heap.size w w2) := HB0.out.trans (hb2.mono (by omega))
       clear hb2 hb hw2
       have p0 : w2.cell? ⟨w1.heap.size, 0, none⟩ = some (.int .u8 kc) := by rw [cell_of_row _ _ _ _ _ _ G1]; rfl
       have p1 : w2.cell? ⟨w1.heap.size, 1, none⟩ = some (.int .u32 l) := by rw [cell_of_row _ _ _ _ _ _ G1]; rfl
       have p2 : w2.cell? ⟨w1.heap.size, 2, none⟩ = some (.int .u32 m) := by rw [cell_of_row _ _ _ _ _ _ G1]; rfl
       have L0 : w.heap.size < w2.heap.size := (Array.getElem?_eq_some_iff.mp G0).1
       have L1 : w1.heap.size < w2.heap.size := (Array.getElem?_eq_some_iff.mp G1).1
       have HG0 : Hid (w2.heap[w.heap.size]? = some (.cells #[.int .i64 o, .int .i64 d, .int .i64 a, .int .i64 b, .int .i64 n] 71)) := G0
       have HG1 : Hid (w2.heap[w1.heap.size]? = some (.cells #[Value.int .u8 kc, .int .u32 l, .int .u32 m, .int .u32 h, .string s] 79)) := G1
       clear G0 G1)
    | (go_at_call 47; refine (hH _).mono ?_; rintro e w2 ⟨rfl, rfl⟩))
  go_loopw [6] (fun z wr => ∃ (k : Nat) (y : Int), k ≤ hs.size ∧ z = .int .u32 y ∧ Hid (y = strV ((l + m * 4096) % 4294967296) d a b (hs.data.toList.take k)) ∧ wr = w2.iter hs k) (fun _ wr => hs.size - iterPos wr w2.heap.size)
  case atStart => exact ⟨0, _, by omega, rfl, rfl, rfl⟩
  case round =>
    obtain ⟨k, y, hk, rfl, HY, rfl⟩ := hrel
    by_cases hi : k < hs.size
    · have hnx := fun ty => run_next_ascii (P := Tryd.prog) w2 hs k ty hi (ha k hi)
      have r1 : (w2.iter hs (k + 1)).cell? ⟨w.heap.size, 1, none⟩ = some (.int .i64 d) := by rw [iter_cell _ _ _ _ _ _ _ HG0.out, cell_of_row _ _ _ _ _ _ HG0.out]; rfl
      have r2 : (w2.iter hs (k + 1)).cell? ⟨w.heap.size, 2, none⟩ = some (.int .i64 a) := by rw [iter_cell _ _ _ _ _ _ _ HG0.out, cell_of_row _ _ _ _ _ _ HG0.out]; rfl
      have r3 : (w2.iter hs (k + 1)).cell? ⟨w.heap.size, 3, none⟩ = some (.int .i64 b) := by rw [iter_cell _ _ _ _ _ _ _ HG0.out, cell_of_row _ _ _ _ _ _ HG0.out]; rfl
      have HS := strV_step ((l + m * 4096) % 4294967296) d a b hs k hi
      have HS' : Hid (strV ((l + m * 4096) % 4294967296) d a b (hs.data.toList.take (k + 1)) = (y + chV d a b (hs[k]'hi).toNat) % 4294967296) := by
        show _ = _
        rw [HS, HY.out]
      clear HS
      by_cases h100 : (hs[k]'hi).toNat = 100
      · have hq : (((hs[k]'hi).toNat : Int) == 100) = true := by simp [h100]
        have HV : Hid (strV ((l + m * 4096) % 4294967296) d a b (hs.data.toList.take (k + 1)) = (y + d * 128) % 4294967296) := by
          show _ = _
          rw [HS'.out, chV, if_pos h100]
        clear h100
        go_wp2
        exact ⟨⟨k + 1, _, by omega, rfl, HV.out.symm, rfl⟩, by rw [iterPos_iter, iterPos_iter]; omega⟩
      · have hq : (((hs[k]'hi).toNat : Int) == 100) = false := by simp; omega
        by_cases h97 : (hs[k]'hi).toNat = 97
        · have hq' : (((hs[k]'hi).toNat : Int) == 97) = true := by simp [h97]
          have HV : Hid (strV ((l + m * 4096) % 4294967296) d a b (hs.data.toList.take (k + 1)) = (y + a * 32768) % 4294967296) := by
            show _ = _
            rw [HS'.out, chV, if_neg h100, if_pos h97]
          clear h97 h100
          go_wp2
          exact ⟨⟨k + 1, _, by omega, rfl, HV.out.symm, rfl⟩, by rw [iterPos_iter, iterPos_iter]; omega⟩
        · have hq' : (((hs[k]'hi).toNat : Int) == 97) = false := by simp; omega
          have HV : Hid (strV ((l + m * 4096) % 4294967296) d a b (hs.data.toList.take (k + 1)) = (y + b * 1048576) % 4294967296) := by
            show _ = _
            rw [HS'.out, chV, if_neg h100, if_neg h97]
          clear h97 h100
          go_wp2
          exact ⟨⟨k + 1, _, by omega, rfl, HV.out.symm, rfl⟩, by rw [iterPos_iter, iterPos_iter]; omega⟩
    · have hnx := fun ty => run_next_end (P := Tryd.prog) w2 hs k ty hi
      have r0 : (w2.iter hs k).cell? ⟨w1.heap.size, 0, none⟩ = some (.int .u8 kc) := by rw [iter_cell _ _ _ _ _ _ _ HG1.out, cell_of_row _ _ _ _ _ _ HG1.out]; rfl
      have r3 : (w2.iter hs k).cell? ⟨w1.heap.size, 3, none⟩ = some (.int .u32 h) := by rw [iter_cell _ _ _ _ _ _ _ HG1.out, cell_of_row _ _ _ _ _ _ HG1.out]; rfl
      go_wp2_with (go_at_call 48; refine (hP _).mono ?_; rintro e w4 ⟨rfl, hw4'⟩; have hw4 : Hid (w4 = (w2.iter hs k).alloc (.cells cs 97)) := hw4'; clear hw4')
      have hB4 : Below w2.heap.size w2 w4 := by rw [hw4.out]; exact (((Below.refl _ _).alloc (Nat.le_refl _) _).alloc (by simp) _)
      have hz4 : (w2.iter hs k).heap.size = w2.heap.size + 1 := by simp [World.iter]
      have G4 : w4.heap[w2.heap.size + 1]? = some (.cells cs 97) := by rw [hw4.out, ← hz4]; exact heap_alloc_last _ _
      rw [hz4]
      have GX : Hid (w4.heap[w.heap.size]? = some (.cells #[.int .i64 o, .int .i64 d, .int .i64 a, .int .i64 b, .int .i64 n] 71)) := by
        show _ = _
        rw [hB4.block _ L0]; exact HG0.out
      have HB4 : Hid (Below w.heap.size w w4) := HB.out.trans (hB4.mono (by omega))
      have HZ : w2.heap.size + 1 < w4.heap.size := (Array.getElem?_eq_some_iff.mp G4).1
      have HG4 : Hid (w4.heap[w2.heap.size + 1]? = some (.cells cs 97)) := G4
      clear hw4 hB4 hz4 G4 r0 r3 hnx
      obtain ⟨y0, hy0⟩ : ∃ y0, y0 = (y + h * 33554432) % 4294967296 := ⟨_, rfl⟩
      rw [← hy0]
      have HM : Hid (y0 % 4294967296 = y0) := by
        show _ = _
        rw [hy0]; omega
      have HE : Hid (z0 = psum n F C T y0 np) := by
        show _ = _
        rw [hz0, hy0, HY.out, List.take_of_length_le (by simp; omega)]
      clear hy0 hz0
      go_loopw [6, 80] (fun z i wr => ∃ (j : Nat) (y : Int), j ≤ np ∧ z = .int .u32 y ∧ i = .int .i64 j ∧ Hid (y = psum n F C T y0 j) ∧ Hid (Below w4.heap.size w4 wr)) (fun _ i _ => np - (intOf i).toNat)
      case atStart => exact ⟨0, _, by omega, rfl, rfl, rfl, Below.refl _ _⟩
      case round =>
        obtain ⟨j, y1, hj, rfl, rfl, HY1, HW⟩ := hrel
        by_cases hjn : j < np
        · obtain ⟨e0, e1, e2⟩ := hcs j hjn
          have GW : wr.heap[w2.heap.size + 1]? = some (.cells cs 97) := by rw [HW.out.block _ HZ]; exact HG4.out
          have u0 : wr.cell? ⟨w2.heap.size + 1, j * 3, none⟩ = some (.int .i64 (F j)) := by rw [cell_of_row _ _ _ _ _ _ GW]; exact e0
          have u1 : wr.cell? ⟨w2.heap.size + 1, j * 3 + 1, none⟩ = some (.int .i64 (C j)) := by rw [cell_of_row _ _ _ _ _ _ GW]; exact e1
          have u2 : wr.cell? ⟨w2.heap.size + 1, j * 3 + 2, none⟩ = some (.int .i64 (T j)) := by rw [cell_of_row _ _ _ _ _ _ GW]; exact e2
          clear e0 e1 e2 GW
          have hzw := HW.out.size
          have qn : (wr.alloc (.cells #[.int .i64 (F j), .int .i64 (C j), .int .i64 (T j)] 97)).cell? ⟨w.heap.size, 4, none⟩ = some (.int .i64 n) := by
            rw [(HW.out.alloc (by omega) _).cell (p := ⟨w.heap.size, 4, none⟩) (by show w.heap.size < _; omega), cell_of_row _ _ _ _ _ _ GX.out]; rfl
          have hfj := hfc j hjn
          have HI : Hid (y1 = (y1 + n / (2 : Int) ^ F j % (2 : Int) ^ 0 * (2 : Int) ^ T j) % 4294967296) := by
            show _ = _
            have e := psum_mod n F C T y0 HM.out j
            rw [← HY1.out] at e
            simp [Int.emod_one, e]
          go_wp2_with fail
          go_loopw [6, 86] (fun z i wv => ∃ (q : Nat) (y : Int), q ≤ C j ∧ z = .int .u32 y ∧ i = .int .i64 q ∧ Hid (y = (y1 + n / (2 : Int) ^ F j % (2 : Int) ^ q * (2 : Int) ^ T j) % 4294967296) ∧ wv = wr.alloc (.cells #[.int .i64 (F j), .int .i64 (C j), .int .i64 (T j)] 97)) (fun _ i _ => C j - (intOf i).toNat)
          case atStart => exact ⟨0, _, by omega, rfl, rfl, HI, rfl⟩
          case round =>
            obtain ⟨q, y2, hq, rfl, rfl, HY2, rfl⟩ := hrel
            by_cases hqc : q < C j
            · have HSt : Hid ((y1 + n / (2 : Int) ^ F j % (2 : Int) ^ (q + 1) * (2 : Int) ^ T j) % 4294967296 = (y2 + n / (2 : Int) ^ (F j + q) % 2 * (2 : Int) ^ (T j + q)) % 4294967296) := by
                show _ = _
                rw [HY2.out, Int.emod_add_emod, bit_step, Int.add_mul, Int.add_assoc, Int.mul_assoc, ← Int.pow_add, Nat.add_comm q (T j)]
              cases hbt : (bits .and .i64 (n / 2 ^ (F j + q)) 1 == 1) with
              | false =>
                have HV : Hid (y2 = (y1 + n / (2 : Int) ^ F j % (2 : Int) ^ (q + 1) * (2 : Int) ^ T j) % 4294967296) := by
                  show _ = _
                  rw [and1] at hbt
                  have hb0 : n / (2 : Int) ^ (F j + q) % 2 = 0 := by
                    have : ¬ n / (2 : Int) ^ (F j + q) % 2 = 1 := by simpa using hbt
                    omega
                  rw [HSt.out, hb0, HY2.out]
                  simp
                go_wp2_with fail
                exact ⟨⟨q + 1, _, by omega, rfl, by simp, HV, trivial⟩, by simp [intOf]; omega⟩
              | true =>
                have HV : Hid ((y2 + (2 : Int) ^ (T j + q) % 4294967296) % 4294967296 = (y1 + n / (2 : Int) ^ F j % (2 : Int) ^ (q + 1) * (2 : Int) ^ T j) % 4294967296) := by
                  show _ = _
                  rw [and1] at hbt
                  have hb0 : n / (2 : Int) ^ (F j + q) % 2 = 1 := by simpa using hbt
                  rw [HSt.out, hb0, Int.one_mul]
                  generalize (2 : Int) ^ (T j + q) = p
                  omega
                go_wp2_with fail
                exact ⟨⟨q + 1, _, by omega, rfl, by simp, HV, trivial⟩, by simp [intOf]; omega⟩
            · have HV : Hid (y2 = psum n F C T y0 (j + 1)) := by
                show _ = _
                rw [HY2.out, HY1.out, show q = C j by omega]; rfl
              go_wp2_with fail
              exact ⟨⟨j + 1, _, by omega, rfl, by simp, HV, HW.out.alloc hzw _⟩, by simp [intOf]; omega⟩
        · have HV : Hid (y1 = z0) := by
            show _ = _
            rw [HY1.out, HE.out, show j = np by omega]
          go_wp2_with fail
          go_ret2
          have hv := HV.out
          subst hv
          exact ⟨rfl, HB4.out.trans (HW.out.mono (by omega))⟩
end Go.Proofs.YtaodcpdkobhmfaaDoor
