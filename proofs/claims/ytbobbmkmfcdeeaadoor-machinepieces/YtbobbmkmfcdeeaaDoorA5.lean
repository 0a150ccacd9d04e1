/- Package word's Encode, walked. -/
import Derived.Test.YtbobbmkmfcdeeaaDoorA4
namespace Go.Proofs.YtbobbmkmfcdeeaaDoor
open Go Go.RowKit Go.Sort

theorem bcell {W w1 : World} (hb : Below W.heap.size W w1) : (∀ b o, b < W.heap.size → w1.cell? ⟨b, o, none⟩ = W.cell? ⟨b, o, none⟩) ∧ (∀ b o, b < W.heap.size → w1.frozen? ⟨b, o, none⟩ = W.frozen? ⟨b, o, none⟩) :=
  ⟨fun b o h => hb.cell (p := ⟨b, o, none⟩) h, fun b o h => hb.frozen (p := ⟨b, o, none⟩) h⟩

/-- The five cells of an instruction that was laid last, behind a call that turned nothing old. -/
theorem box5 {w w1 : World} {a b c d e : Value} {t : TypeId} (hb : Below (w.alloc (.cells #[a, b, c, d, e] t)).heap.size (w.alloc (.cells #[a, b, c, d, e] t)) w1) :
    w1.cell? ⟨w.heap.size, 0, none⟩ = some a ∧ w1.cell? ⟨w.heap.size, 1, none⟩ = some b ∧ w1.cell? ⟨w.heap.size, 2, none⟩ = some c ∧ w1.cell? ⟨w.heap.size, 3, none⟩ = some d ∧ w1.cell? ⟨w.heap.size, 4, none⟩ = some e := by
  have hc1 := (bcell hb).1
  have hl : w.heap.size < (w.alloc (.cells #[a, b, c, d, e] t)).heap.size := by simp
  refine ⟨?_, ?_, ?_, ?_, ?_⟩ <;> (rw [hc1 _ _ hl, cell_of_row _ _ _ _ _ _ (heap_alloc_last w _)]; rfl)

abbrev errV (n : Int) : Value := .iface 25 (.int .i64 n)

set_option maxHeartbeats 400000 in
theorem encode_out (o rd ra rb n : Int) (w : World) (h : o < 1 ∨ 31 < o) :
    Calls Tryd.prog 40 #[instV o rd ra rb n] w fun e w' => e = .returned (.tuple #[.int .u32 0, errV 1]) ∧ Below w.heap.size w w' := by
  go_enter Tryd.func40, Tryd.ntmps40
  go_wp2_with (go_at_call 57; refine (right_no _ _ _ _ _ _ h).mono ?_; rintro e w1 ⟨rfl, hb⟩)
  go_ret2
  exact ⟨rfl, ((Below.refl _ _).alloc (Nat.le_refl _) _).trans (hb.mono (by simp))⟩

set_option maxHeartbeats 400000 in
theorem encode_no (o k : Nat) (l m h rd ra rb n : Int) (cs : List Value) (s : Sh) (w : World) (h1 : 1 ≤ o) (h31 : o ≤ 31) (hk : k < 8)
    (ht : TabAt w o k l m h cs) (hc : ShIs cs s) (hs : ShOk s) (hr : rightB rd ra rb n s = false) :
    Calls Tryd.prog 40 #[instV o rd ra rb n] w fun e w' => e = .returned (.tuple #[.int .u32 0, errV 1]) ∧ Below w.heap.size w w' := by
  go_enter Tryd.func40, Tryd.ntmps40
  go_wp2_with (go_at_call 57; refine (right_yes o k l m h rd ra rb n cs s _ h1 h31 hk (ht.below ((Below.refl _ _).alloc (Nat.le_refl _) _)) hc hs).mono ?_; rintro e w1 ⟨rfl, hb⟩)
  go_ret2
  exact ⟨rfl, ((Below.refl _ _).alloc (Nat.le_refl _) _).trans (hb.mono (by simp))⟩

def regsV (rd ra rb : Int) : Int := bits .or .u32 (bits .or .u32 (rd * 128) (ra * 32768)) (rb * 1048576)
def encV (l m h rd ra rb n : Int) (s : Sh) : Int := bits .or .u32 (bits .or .u32 (obV l m h) (regsV rd ra rb)) (spreadV n s)

set_option maxRecDepth 100000 in
set_option maxHeartbeats 400000 in
theorem encode_yes (o k : Nat) (l m h rd ra rb n : Int) (cs : List Value) (s : Sh) (w : World) (h1 : 1 ≤ o) (h31 : o ≤ 31) (hk : k < 8)
    (ht : TabAt w o k l m h cs) (hc : ShIs cs s) (hs : ShOk s) (hr : rightB rd ra rb n s = true)
    (hl : 0 ≤ l) (hl1 : l < 128) (hm : 0 ≤ m) (hm1 : m < 8) (hh : 0 ≤ h) (hh1 : h < 128)
    (hd0 : 0 ≤ rd) (hd1 : rd < 32) (ha0 : 0 ≤ ra) (ha1 : ra < 32) (hb0 : 0 ≤ rb) (hb1 : rb < 32) :
    Calls Tryd.prog 40 #[instV o rd ra rb n] w fun e w' => e = .returned (.tuple #[.int .u32 (encV l m h rd ra rb n s), .nilIface]) ∧ Below w.heap.size w w' := by
  have HT : Hid (TabAt w o k l m h cs) := ht
  have SZ : Hid ((Tryd.prog.info? 117).map (·.size) = some cs.length) := size61 hc
  clear ht
  go_enter Tryd.func40, Tryd.ntmps40
  go_wp2_with fail
  refine (right_yes o k l m h rd ra rb n cs s _ h1 h31 hk (HT.out.below ((Below.refl _ _).alloc (Nat.le_refl _) _)) hc hs).mono ?_
  rintro e w1 ⟨rfl, hb⟩
  obtain ⟨x0, x1, x2, x3, x4⟩ := box5 hb
  have hz := hb.size
  simp at hz
  have hz1 : w.heap.size < w1.heap.size := by omega
  obtain ⟨z0, z1, f0, f1, f2, f3, rng⟩ := (HT.out.below ((Below.refl _ _).alloc (Nat.le_refl _) _)).below hb
  have RNG : Hid (w1.rangeAt 1 (k * 19) cs) := rng
  have HB : Hid (Below w.heap.size w w1) := ((Below.refl _ _).alloc (Nat.le_refl _) _).trans (hb.mono (by simp))
  clear rng hb
  go_wp2_with fail
  have y : ∀ d os, (grow (redrawn (w1.alloc (.cells #[.int .u8 (k : Int), .int .u8 l, .int .u8 m, .int .u8 h] 109)) d) os).rangeAt 1 (k * 19) cs := fun d os => rangeAt_below (World.rangeAt_alloc RNG.out _) (below_regrown _ d os) (by simp; omega)
  have RY : Hid (∀ d os, (grow (redrawn (w1.alloc (.cells #[.int .u8 (k : Int), .int .u8 l, .int .u8 m, .int .u8 h] 109)) d) os).rangeAt 1 (k * 19) cs) := y
  clear y
  have hx4 : (w1.alloc (.cells #[.int .u8 (k : Int), .int .u8 l, .int .u8 m, .int .u8 h] 109)).cell? ⟨w.heap.size, 4, none⟩ = some (.int .i64 n) := by
    rw [World.cell?_alloc_lt _ _ _ (show _ < _ from hz1)]; exact x4
  have hq0 : (w1.alloc (.cells #[.int .u8 (k : Int), .int .u8 l, .int .u8 m, .int .u8 h] 109)).cell? ⟨w1.heap.size, 0, none⟩ = some (.int .u8 (k : Int)) := by rw [cell_of_row _ _ _ _ _ _ (heap_alloc_last w1 _)]; rfl
  have hq1 : (w1.alloc (.cells #[.int .u8 (k : Int), .int .u8 l, .int .u8 m, .int .u8 h] 109)).cell? ⟨w1.heap.size, 1, none⟩ = some (.int .u8 l) := by rw [cell_of_row _ _ _ _ _ _ (heap_alloc_last w1 _)]; rfl
  have hq2 : (w1.alloc (.cells #[.int .u8 (k : Int), .int .u8 l, .int .u8 m, .int .u8 h] 109)).cell? ⟨w1.heap.size, 2, none⟩ = some (.int .u8 m) := by rw [cell_of_row _ _ _ _ _ _ (heap_alloc_last w1 _)]; rfl
  have hq3 : (w1.alloc (.cells #[.int .u8 (k : Int), .int .u8 l, .int .u8 m, .int .u8 h] 109)).cell? ⟨w1.heap.size, 3, none⟩ = some (.int .u8 h) := by rw [cell_of_row _ _ _ _ _ _ (heap_alloc_last w1 _)]; rfl
  have HW : Hid (Below w.heap.size w (w1.alloc (.cells #[.int .u8 (k : Int), .int .u8 l, .int .u8 m, .int .u8 h] 109))) := HB.out.alloc (by omega) _
  generalize w1.alloc (.cells #[.int .u8 (k : Int), .int .u8 l, .int .u8 m, .int .u8 h] 109) = W at *
  have k4 := cell_regrown hx4
  have k0 := cell_regrown hq0
  have k1 := cell_regrown hq1
  have k2 := cell_regrown hq2
  have k3 := cell_regrown hq3
  have CO : Hid (∀ d os, Calls Tryd.prog 58 #[.agg #[.int .u8 (k : Int), .int .u8 l, .int .u8 m, .int .u8 h]] (grow (redrawn W d) os) fun e w'' => e = .returned (.int .u32 (obV l m h)) ∧ ∃ p : Regrown, w'' = grow (redrawn W p.d) p.os) :=
    fun d os => Calls.regrown_of (opBits_any _ _ _ _ _ hl hl1 hm hm1 hh hh1)
  have CS : Hid (∀ d os, Calls Tryd.prog 59 #[.int .i64 n, .agg cs.toArray] (grow (redrawn W d) os) fun e w'' => e = .returned (.int .u32 (spreadV n s)) ∧ ∃ p : Regrown, w'' = grow (redrawn W p.d) p.os) :=
    fun d os => Calls.regrown_of (spread_any _ _ _ _ hc hs)
  clear x0 x1 x2 x3 x4 f0 f1 f2 f3 hx4 hq0 hq1 hq2 hq3
  have hk8 : (k : Int) < 8 := by omega
  have hk0 : (0 : Int) ≤ (k : Int) := by omega
  refine wp_region_quiet_below (by kernel_rfl) (by kernel_rfl) ?_
  repeat (first
    | refine wpQuiet_load_mid rfl 117 _ rfl 1 (k * 19) rfl cs _ (by rintro w' ⟨⟨d, os⟩, rfl⟩; exact RY.out d os) Tryd.underlying117 rfl SZ.out ?_
    | quiet_step (first | exact CO.out _ _ | exact CS.out _ _))
  refine wpQuiet_nil ?_
  intro _ hw'
  obtain ⟨⟨dq, osq⟩, hw''⟩ := hw'
  subst hw''
  go_wp2
  go_ret2
  exact ⟨rfl, HW.out.trans ((below_regrown W dq osq).mono HW.out.size)⟩
end Go.Proofs.YtbobbmkmfcdeeaaDoor
