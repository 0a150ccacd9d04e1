/- The document's Step, at a word that is no instruction. The document's Step, at an instruction: what stands in memory behind the fetch; Lui. -/
import Derived.Test.YtaodcpdkobhmfaaDoorMK
import Derived.Test.YtaodcpdkobhmfaaDoorE16
namespace Go.Proofs.YtaodcpdkobhmfaaDoor
open Go Go.RowKit

set_option maxRecDepth 100000 in
set_option maxHeartbeats 1000000 in
theorem dstep_none (w : World) (B s mb n L p : Nat) (m : MS) (gv ov : Value) (h : DMac w B s mb n L m gv ov) (hL : L % 8 = 0) (hr : Rng L m) (hc : m.code = 0) (h0 : m.way = 0) (hp : m.pc = p) (hf : hasB L p 4 = true)
    (hd : ∀ w, Calls Tryd.prog 32 #[.int .u32 (gthTo m.M p 4)] w fun e w' => e = .returned (.tuple #[.agg zero5, .int .i64 3]) ∧ Below w.heap.size w w') :
    Calls Tryd.prog 10 #[.pointer (some ⟨s, 0, none⟩)] w fun e w' => e = .returned (.tuple #[]) ∧ DPost w B s mb n L { m with way := 9, code := 0 } ov w' := by
  have HM : Hid (∀ q w1, Below (w.drewN q).heap.size (w.drewN q) w1 → (w1.alloc (.cells #[.int .i64 0, .int .i64 0, .int .i64 0, .int .i64 0, .int .i64 0] 71)).cell? ⟨s, 36, none⟩ = some (.int .i64 0) ∧ (w1.alloc (.cells #[.int .i64 0, .int .i64 0, .int .i64 0, .int .i64 0, .int .i64 0] 71)).frozen? ⟨s, 36, none⟩ = false ∧
      DPost w B s mb n L { m with way := 9, code := 0 } ov ((w1.alloc (.cells #[.int .i64 0, .int .i64 0, .int .i64 0, .int .i64 0, .int .i64 0] 71)).setCell ⟨s, 36, none⟩ (.int .i64 9))) := fun q w1 hb => by
    have hb2 : Below (w.drewN q).heap.size (w.drewN q) (w1.alloc (.cells #[.int .i64 0, .int .i64 0, .int .i64 0, .int .i64 0, .int .i64 0] 71)) := hb.alloc hb.size _
    have hx := (h.drewN q).grown hb2
    exact ⟨by rw [hx.core.way, h0], hx.core.fs 36, DPost.after q (DPost.trans (Off.of_below hb2) (fun _ e => .inl e) (DPost.way hx hc 9))⟩
  have cp := h.core.pc
  have c36 := h.core.way
  rw [h0] at c36
  rw [hp] at cp
  have hfh := fet_has L p hL
  rw [hf] at hfh
  obtain ⟨_, h4, hLp⟩ := has_split hf
  have hL1 := h.core.L1
  have h4n : (p : Int) % 4 = 0 := h4
  have ha8 : hasB L ((p - p % 8 : Nat) : Int) 8 = true := by simp [hasB]; omega
  have HL : Hid (∀ q a, a = ((p - p % 8 : Nat) : Int) → Calls Tryd.prog 12 #[.pointer (some ⟨s, 0, none⟩), .int .i64 a] (w.drewN q) fun e w' => e = .returned (.tuple #[.int .i64 (ldV m.M (p - p % 8)), .int .i64 0]) ∧ w' = w.drewN q) := fun q a ha => by
    subst ha
    exact dload_yes (w.drewN q) s mb n L m gv ov _ (h.drewN q).core ha8
  have HW : Hid (ldV m.M (p - p % 8) % 18446744073709551616 / (2 : Int) ^ (8 * (p % 8)) % 4294967296 = gthTo m.M p 4) := fet_word m.M L p hL hf hr.M
  have HD : Hid (∀ w x, x = gthTo m.M p 4 → Calls Tryd.prog 32 #[.int .u32 x] w fun e w' => e = .returned (.tuple #[.agg zero5, .int .i64 3]) ∧ Below w.heap.size w w') := fun w x hx => by rw [hx]; exact hd w
  clear h hc hr hf hfh h0 hd ha8 hp h4
  generalize ldV m.M (p - p % 8) = v at *
  generalize gthTo m.M p 4 = W at *
  rcases (show p % 8 = 0 ∨ p % 8 = 4 by omega) with h8 | h8
  · rw [h8] at HW
    have h8' : (p : Int) % 8 = 0 := by omega
    go_enter Tryd.func10, Tryd.ntmps10
    go_wp2_with fail
    go_quiet ((go_at_call 12; exact Calls.quiet_of_same (HL.out _ _ (by omega))))
    go_wp2_with (go_at_call 32; refine (HD.out _ _ (by have := HW.out; simp [IntKind.wrap_u64] at this ⊢; omega)).mono ?_; rintro e w1 ⟨rfl, hb⟩; obtain ⟨x1, x2, x3⟩ := HM.out _ _ hb; have HX : Hid (DPost _ _ _ _ _ _ _ _ _) := x3; clear hb x3)
    refine bodyPost_ret (results_none rfl _ _ _) rfl ?_
    exact ⟨rfl, HX.out⟩
  · rw [h8] at HW
    have h8' : (p : Int) % 8 = 4 := by omega
    go_enter Tryd.func10, Tryd.ntmps10
    go_wp2_with fail
    go_quiet ((go_at_call 12; exact Calls.quiet_of_same (HL.out _ _ (by omega))))
    go_wp2_with (go_at_call 32; refine (HD.out _ _ (by have := HW.out; simp [IntKind.wrap_u64] at this ⊢; omega)).mono ?_; rintro e w1 ⟨rfl, hb⟩; obtain ⟨x1, x2, x3⟩ := HM.out _ _ hb; have HX : Hid (DPost _ _ _ _ _ _ _ _ _) := x3; clear hb x3)
    refine bodyPost_ret (results_none rfl _ _ _) rfl ?_
    exact ⟨rfl, HX.out⟩
end Go.Proofs.YtaodcpdkobhmfaaDoor

namespace Go.Proofs.YtaodcpdkobhmfaaDoor
open Go Go.RowKit

abbrev insO (o d a b n : Int) : Obj := .cells #[.int .i64 o, .int .i64 d, .int .i64 a, .int .i64 b, .int .i64 n] 71
abbrev frmO (kc l mm hh : Int) (sx : ByteArray) : Obj := .cells #[.int .u8 kc, .int .u32 l, .int .u32 mm, .int .u32 hh, .string sx] 79

/-- What is there behind the fetch: the machine, the instruction's cells. -/
structure At (w w3 : World) (B s mb n L g : Nat) (m : MS) (gv ov : Value) (o d a b k : Int) : Prop where
  mac : DMac w3 B s mb n L m gv ov
  off : Below w.heap.size w w3
  g0 : w.heap.size ≤ g
  c0 : w3.cell? ⟨g, 0, none⟩ = some (.int .i64 o)
  c1 : w3.cell? ⟨g, 1, none⟩ = some (.int .i64 d)
  c2 : w3.cell? ⟨g, 2, none⟩ = some (.int .i64 a)
  c3 : w3.cell? ⟨g, 3, none⟩ = some (.int .i64 b)
  c4 : w3.cell? ⟨g, 4, none⟩ = some (.int .i64 k)

theorem at_mk {w w1 w2 : World} {B s mb n L q : Nat} {m : MS} {gv ov : Value} {o d a b k kc l mm hh : Int} {sx : ByteArray} (h : DMac w B s mb n L m gv ov) (h1 : Below (w.drewN q).heap.size (w.drewN q) w1) (h2 : Below (w1.alloc (insO o d a b k)).heap.size (w1.alloc (insO o d a b k)) w2) :
    At w (w2.alloc (frmO kc l mm hh sx)) B s mb n L w1.heap.size m gv ov o d a b k := by
  have e0 : (w.drewN q).heap.size = w.heap.size := by simp
  have hs1 := h1.size
  have hs2 := h2.size
  have hsa : (w1.alloc (insO o d a b k)).heap.size = w1.heap.size + 1 := by simp
  have hA : Below w.heap.size w (w1.alloc (insO o d a b k)) := by
    have := h1.alloc h1.size (insO o d a b k)
    rw [e0] at this
    exact ⟨this.os, this.tape, this.output, by have := this.size; omega, fun i hi => this.block i hi⟩
  have hB : Below w.heap.size w w2 := ⟨h2.os.trans hA.os, h2.tape.trans hA.tape, h2.output.trans hA.output, by have := hA.size; omega, fun i hi => (h2.block i (by have := hA.size; omega)).trans (hA.block i hi)⟩
  have hC : Below w.heap.size w (w2.alloc (frmO kc l mm hh sx)) := hB.alloc hB.size _
  have hb : (w2.alloc (frmO kc l mm hh sx)).heap[w1.heap.size]? = some (insO o d a b k) := by
    have e1 : w2.heap[w1.heap.size]? = some (insO o d a b k) := by rw [h2.block _ (by omega)]; exact heap_alloc_last w1 _
    have e2 : Below w2.heap.size w2 (w2.alloc (frmO kc l mm hh sx)) := (Below.refl _ _).alloc (Nat.le_refl _) _
    rw [e2.block _ (by omega)]; exact e1
  refine ⟨h.grown hC, hC, by omega, ?_, ?_, ?_, ?_, ?_⟩ <;> (rw [cell_of_row _ _ _ _ _ _ hb]; rfl)
end Go.Proofs.YtaodcpdkobhmfaaDoor
