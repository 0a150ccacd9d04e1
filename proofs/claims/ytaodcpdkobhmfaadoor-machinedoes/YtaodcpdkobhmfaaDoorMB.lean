/- Package word's Right and Encode, walked. Package word's Encode, walked. Package word's gather, walked. -/
import Derived.Test.YtaodcpdkobhmfaaDoorMA
import Derived.Deep.Cut
namespace Go.Proofs.YtaodcpdkobhmfaaDoor
open Go Go.RowKit

abbrev instV (o rd ra rb n : Int) : Value := .agg #[.int .i64 o, .int .i64 rd, .int .i64 ra, .int .i64 rb, .int .i64 n]

def rightB (rd ra rb n : Int) (s : Sh) : Bool := fitB rd s.rd && fitB ra s.ra && fitB rb s.rb && nfB n s

set_option maxHeartbeats 400000 in
theorem right_no (o rd ra rb n : Int) (w : World) (h : o < 1 ∨ 31 < o) :
    Calls Tryd.prog 57 #[instV o rd ra rb n] w fun e w' => e = .returned (.bool false) ∧ Below w.heap.size w w' := by
  rcases h with h | h
  · go_enter Tryd.func57, Tryd.ntmps57
    go_wp2
    go_ret
    exact ⟨rfl, (Below.refl _ _).alloc (Nat.le_refl _) _⟩
  · have h' : ¬ o < 1 := by omega
    go_enter Tryd.func57, Tryd.ntmps57
    go_wp2
    go_ret
    exact ⟨rfl, (Below.refl _ _).alloc (Nat.le_refl _) _⟩

set_option maxRecDepth 100000 in
set_option maxHeartbeats 1000000 in
theorem right_f1 (o k : Nat) (l m h rd ra rb n : Int) (cs : List Value) (s : Sh) (w : World) (h1 : 1 ≤ o) (h31 : o ≤ 31) (hk : k < 8)
    (ht : TabAt w o k l m h cs) (hc : ShIs cs s) (hA : fitB rd s.rd = false) :
    Calls Tryd.prog 57 #[instV o rd ra rb n] w fun e w' => e = .returned (.bool false) ∧ Below w.heap.size w w' := by
  have h1' : ¬ (o : Int) < 1 := by omega
  have h31' : ¬ 31 < (o : Int) := by omega
  have hlen : cs.length = 19 := hc.len
  have g0 := hc.g0
  have g1 := hc.g1
  have g2 := hc.g2
  have SZ : Hid ((Tryd.prog.info? 117).map (·.size) = some cs.length) := size61 hc
  have ONE : Hid (∀ v ∈ cs, v.oneCell' = true) := hc.one
  obtain ⟨z0, z1, hf, _, _, _, rng⟩ := ht
  have RNG : Hid (w.rangeAt 1 (k * 19) cs) := rng
  clear rng
  go_enter Tryd.func57, Tryd.ntmps57
  go_upto_region 4 with (first
    | refine wpList_load_w rfl 117 _ rfl 1 (k * 19) rfl cs _ (by exact World.rangeAt_alloc RNG.out _) Tryd.underlying117 rfl SZ.out ?_
    | refine wpList_store_new rfl 117 _ _ rfl _ _ cs rfl rfl (by simp) SZ.out (by simp [hlen]) ONE.out ?_)
  go_wp2_with (go_at_call 68; refine (registerFits_any _ _ _).mono ?_; rintro e w' ⟨rfl, rfl⟩)
  go_ret
  exact ⟨rfl, ((Below.refl _ _).alloc (Nat.le_refl _) _).alloc (by simp) _⟩

set_option maxRecDepth 100000 in
set_option maxHeartbeats 1000000 in
theorem right_f2 (o k : Nat) (l m h rd ra rb n : Int) (cs : List Value) (s : Sh) (w : World) (h1 : 1 ≤ o) (h31 : o ≤ 31) (hk : k < 8)
    (ht : TabAt w o k l m h cs) (hc : ShIs cs s) (hA : fitB rd s.rd = true) (hB : fitB ra s.ra = false) :
    Calls Tryd.prog 57 #[instV o rd ra rb n] w fun e w' => e = .returned (.bool false) ∧ Below w.heap.size w w' := by
  have h1' : ¬ (o : Int) < 1 := by omega
  have h31' : ¬ 31 < (o : Int) := by omega
  have hlen : cs.length = 19 := hc.len
  have g0 := hc.g0
  have g1 := hc.g1
  have g2 := hc.g2
  have SZ : Hid ((Tryd.prog.info? 117).map (·.size) = some cs.length) := size61 hc
  have ONE : Hid (∀ v ∈ cs, v.oneCell' = true) := hc.one
  obtain ⟨z0, z1, hf, _, _, _, rng⟩ := ht
  have RNG : Hid (w.rangeAt 1 (k * 19) cs) := rng
  clear rng
  go_enter Tryd.func57, Tryd.ntmps57
  go_upto_region 4 with (first
    | refine wpList_load_w rfl 117 _ rfl 1 (k * 19) rfl cs _ (by exact World.rangeAt_alloc RNG.out _) Tryd.underlying117 rfl SZ.out ?_
    | refine wpList_store_new rfl 117 _ _ rfl _ _ cs rfl rfl (by simp) SZ.out (by simp [hlen]) ONE.out ?_)
  go_wp2_with (go_at_call 68; refine (registerFits_any _ _ _).mono ?_; rintro e w' ⟨rfl, rfl⟩)
  go_ret
  exact ⟨rfl, ((Below.refl _ _).alloc (Nat.le_refl _) _).alloc (by simp) _⟩

set_option maxRecDepth 100000 in
set_option maxHeartbeats 1000000 in
theorem right_f3 (o k : Nat) (l m h rd ra rb n : Int) (cs : List Value) (s : Sh) (w : World) (h1 : 1 ≤ o) (h31 : o ≤ 31) (hk : k < 8)
    (ht : TabAt w o k l m h cs) (hc : ShIs cs s) (hA : fitB rd s.rd = true) (hB : fitB ra s.ra = true) (hC : fitB rb s.rb = false) :
    Calls Tryd.prog 57 #[instV o rd ra rb n] w fun e w' => e = .returned (.bool false) ∧ Below w.heap.size w w' := by
  have h1' : ¬ (o : Int) < 1 := by omega
  have h31' : ¬ 31 < (o : Int) := by omega
  have hlen : cs.length = 19 := hc.len
  have g0 := hc.g0
  have g1 := hc.g1
  have g2 := hc.g2
  have SZ : Hid ((Tryd.prog.info? 117).map (·.size) = some cs.length) := size61 hc
  have ONE : Hid (∀ v ∈ cs, v.oneCell' = true) := hc.one
  obtain ⟨z0, z1, hf, _, _, _, rng⟩ := ht
  have RNG : Hid (w.rangeAt 1 (k * 19) cs) := rng
  clear rng
  go_enter Tryd.func57, Tryd.ntmps57
  go_upto_region 4 with (first
    | refine wpList_load_w rfl 117 _ rfl 1 (k * 19) rfl cs _ (by exact World.rangeAt_alloc RNG.out _) Tryd.underlying117 rfl SZ.out ?_
    | refine wpList_store_new rfl 117 _ _ rfl _ _ cs rfl rfl (by simp) SZ.out (by simp [hlen]) ONE.out ?_)
  go_wp2_with (go_at_call 68; refine (registerFits_any _ _ _).mono ?_; rintro e w' ⟨rfl, rfl⟩)
  go_ret
  exact ⟨rfl, ((Below.refl _ _).alloc (Nat.le_refl _) _).alloc (by simp) _⟩

set_option maxRecDepth 100000 in
set_option maxHeartbeats 1000000 in
theorem right_t (o k : Nat) (l m h rd ra rb n : Int) (cs : List Value) (s : Sh) (w : World) (h1 : 1 ≤ o) (h31 : o ≤ 31) (hk : k < 8)
    (ht : TabAt w o k l m h cs) (hc : ShIs cs s) (hs : ShOk s) (hA : fitB rd s.rd = true) (hB : fitB ra s.ra = true) (hC : fitB rb s.rb = true) :
    Calls Tryd.prog 57 #[instV o rd ra rb n] w fun e w' => e = .returned (.bool (nfB n s)) ∧ Below w.heap.size w w' := by
  have h1' : ¬ (o : Int) < 1 := by omega
  have h31' : ¬ 31 < (o : Int) := by omega
  have hlen : cs.length = 19 := hc.len
  have g0 := hc.g0
  have g1 := hc.g1
  have g2 := hc.g2
  have SZ : Hid ((Tryd.prog.info? 117).map (·.size) = some cs.length) := size61 hc
  have ONE : Hid (∀ v ∈ cs, v.oneCell' = true) := hc.one
  obtain ⟨z0, z1, hf, _, _, _, rng⟩ := ht
  have RNG : Hid (w.rangeAt 1 (k * 19) cs) := rng
  clear rng
  go_enter Tryd.func57, Tryd.ntmps57
  go_upto_region 4 with (first
    | refine wpList_load_w rfl 117 _ rfl 1 (k * 19) rfl cs _ (by exact World.rangeAt_alloc RNG.out _) Tryd.underlying117 rfl SZ.out ?_
    | refine wpList_store_new rfl 117 _ _ rfl _ _ cs rfl rfl (by simp) SZ.out (by simp [hlen]) ONE.out ?_)
  clear hf RNG
  go_wp2_with (first
    | refine wpList_load_w rfl 117 _ rfl (w.heap.size + 1) 0 rfl cs _ (by exact rangeAt_new _ cs 117 _ (by simp)) Tryd.underlying117 rfl SZ.out ?_
    | (go_at_call 68; refine (registerFits_any _ _ _).mono ?_; rintro e w' ⟨rfl, rfl⟩)
    | (go_at_call 69; refine (numberFits_any n cs s _ hc hs).mono ?_; rintro e w' ⟨rfl, hb⟩))
  go_ret
  exact ⟨rfl, (((Below.refl _ _).alloc (Nat.le_refl _) _).alloc (by simp) _).trans (hb.mono (by simp; omega))⟩


theorem right_yes (o k : Nat) (l m h rd ra rb n : Int) (cs : List Value) (s : Sh) (w : World) (h1 : 1 ≤ o) (h31 : o ≤ 31) (hk : k < 8)
    (ht : TabAt w o k l m h cs) (hc : ShIs cs s) (hs : ShOk s) :
    Calls Tryd.prog 57 #[instV o rd ra rb n] w fun e w' => e = .returned (.bool (rightB rd ra rb n s)) ∧ Below w.heap.size w w' := by
  unfold rightB
  cases hA : fitB rd s.rd with
  | false => exact right_f1 o k l m h rd ra rb n cs s w h1 h31 hk ht hc hA
  | true =>
    cases hB : fitB ra s.ra with
    | false => exact right_f2 o k l m h rd ra rb n cs s w h1 h31 hk ht hc hA hB
    | true =>
      cases hC : fitB rb s.rb with
      | false => exact right_f3 o k l m h rd ra rb n cs s w h1 h31 hk ht hc hA hB hC
      | true => exact right_t o k l m h rd ra rb n cs s w h1 h31 hk ht hc hs hA hB hC
end Go.Proofs.YtaodcpdkobhmfaaDoor

namespace Go.Proofs.YtaodcpdkobhmfaaDoor
open Go Go.RowKit Go.Sort

theorem bcell {W w1 : World} (hb : Below W.heap.size W w1) : (∀ b o, b < W.heap.size → w1.cell? ⟨b, o, none⟩ = W.cell? ⟨b, o, none⟩) ∧ (∀ b o, b < W.heap.size → w1.frozen? ⟨b, o, none⟩ = W.frozen? ⟨b, o, none⟩) :=
  ⟨fun b o h => hb.cell (p := ⟨b, o, none⟩) h, fun b o h => hb.frozen (p := ⟨b, o, none⟩) h⟩

/-- The five cells of an instruction that was laid last, behind a call that turned nothing old. -/
theorem box5 {w w1 : World} {a b c d e : Value} {t : TypeId} (hb : Below (w.alloc (.cells #[a, b, c, d, e] t)).heap.size (w.alloc (.cells #[a, b, c, d, e] t)) w1) :
    w1.cell? ⟨w.heap.size, 0, none⟩ = some a ∧ w1.cell? ⟨w.heap.size, 1, none⟩ = some b ∧ w1.cell? ⟨w.heap.size, 2, none⟩ = some c ∧ w1.cell? ⟨w.heap.size, 3, none⟩ = some d ∧ w1.cell? ⟨w.heap.size, 4, none⟩ = some e := by
  have hc1 := (bcell hb).1
  have hl : w.heap.size < (w.alloc (.cells #[a, b, c, d, e] t)).heap.size := by simp
  refine ⟨?_, ?_, ?_, ?_, ?_⟩ <;> (rw [hc1 _ _ hl, cell_of_row _ _ _ _ _ _ (heap_alloc_last w _)]; rfl)

abbrev errV (n : Int) : Value := .iface 25 (.int .i64 n)

set_option maxHeartbeats 400000 in
theorem encode_out (o rd ra rb n : Int) (w : World) (h : o < 1 ∨ 31 < o) :
    Calls Tryd.prog 40 #[instV o rd ra rb n] w fun e w' => e = .returned (.tuple #[.int .u32 0, errV 1]) ∧ Below w.heap.size w w' := by
  go_enter Tryd.func40, Tryd.ntmps40
  go_wp2_with (go_at_call 57; refine (right_no _ _ _ _ _ _ h).mono ?_; rintro e w1 ⟨rfl, hb⟩)
  go_ret2
  exact ⟨rfl, ((Below.refl _ _).alloc (Nat.le_refl _) _).trans (hb.mono (by simp))⟩

set_option maxHeartbeats 400000 in
theorem encode_no (o k : Nat) (l m h rd ra rb n : Int) (cs : List Value) (s : Sh) (w : World) (h1 : 1 ≤ o) (h31 : o ≤ 31) (hk : k < 8)
    (ht : TabAt w o k l m h cs) (hc : ShIs cs s) (hs : ShOk s) (hr : rightB rd ra rb n s = false) :
    Calls Tryd.prog 40 #[instV o rd ra rb n] w fun e w' => e = .returned (.tuple #[.int .u32 0, errV 1]) ∧ Below w.heap.size w w' := by
  go_enter Tryd.func40, Tryd.ntmps40
  go_wp2_with (go_at_call 57; refine (right_yes o k l m h rd ra rb n cs s _ h1 h31 hk (ht.below ((Below.refl _ _).alloc (Nat.le_refl _) _)) hc hs).mono ?_; rintro e w1 ⟨rfl, hb⟩)
  go_ret2
  exact ⟨rfl, ((Below.refl _ _).alloc (Nat.le_refl _) _).trans (hb.mono (by simp))⟩

def regsV (rd ra rb : Int) : Int := bits .or .u32 (bits .or .u32 (rd * 128) (ra * 32768)) (rb * 1048576)
def encV (l m h rd ra rb n : Int) (s : Sh) : Int := bits .or .u32 (bits .or .u32 (obV l m h) (regsV rd ra rb)) (spreadV n s)

set_option maxRecDepth 100000 in
set_option maxHeartbeats 400000 in
theorem encode_yes (o k : Nat) (l m h rd ra rb n : Int) (cs : List Value) (s : Sh) (w : World) (h1 : 1 ≤ o) (h31 : o ≤ 31) (hk : k < 8)
    (ht : TabAt w o k l m h cs) (hc : ShIs cs s) (hs : ShOk s) (hr : rightB rd ra rb n s = true)
    (hl : 0 ≤ l) (hl1 : l < 128) (hm : 0 ≤ m) (hm1 : m < 8) (hh : 0 ≤ h) (hh1 : h < 128)
    (hd0 : 0 ≤ rd) (hd1 : rd < 32) (ha0 : 0 ≤ ra) (ha1 : ra < 32) (hb0 : 0 ≤ rb) (hb1 : rb < 32) :
    Calls Tryd.prog 40 #[instV o rd ra rb n] w fun e w' => e = .returned (.tuple #[.int .u32 (encV l m h rd ra rb n s), .nilIface]) ∧ Below w.heap.size w w' := by
  have HT : Hid (TabAt w o k l m h cs) := ht
  have SZ : Hid ((Tryd.prog.info? 117).map (·.size) = some cs.length) := size61 hc
  clear ht
  go_enter Tryd.func40, Tryd.ntmps40
  go_wp2_with fail
  refine (right_yes o k l m h rd ra rb n cs s _ h1 h31 hk (HT.out.below ((Below.refl _ _).alloc (Nat.le_refl _) _)) hc hs).mono ?_
  rintro e w1 ⟨rfl, hb⟩
  obtain ⟨x0, x1, x2, x3, x4⟩ := box5 hb
  have hz := hb.size
  simp at hz
  have hz1 : w.heap.size < w1.heap.size := by omega
  obtain ⟨z0, z1, f0, f1, f2, f3, rng⟩ := (HT.out.below ((Below.refl _ _).alloc (Nat.le_refl _) _)).below hb
  have RNG : Hid (w1.rangeAt 1 (k * 19) cs) := rng
  have HB : Hid (Below w.heap.size w w1) := ((Below.refl _ _).alloc (Nat.le_refl _) _).trans (hb.mono (by simp))
  clear rng hb
  go_wp2_with fail
  have y : ∀ d os, (grow (redrawn (w1.alloc (.cells #[.int .u8 (k : Int), .int .u8 l, .int .u8 m, .int .u8 h] 109)) d) os).rangeAt 1 (k * 19) cs := fun d os => rangeAt_below (World.rangeAt_alloc RNG.out _) (below_regrown _ d os) (by simp; omega)
  have RY : Hid (∀ d os, (grow (redrawn (w1.alloc (.cells #[.int .u8 (k : Int), .int .u8 l, .int .u8 m, .int .u8 h] 109)) d) os).rangeAt 1 (k * 19) cs) := y
  clear y
  have hx4 : (w1.alloc (.cells #[.int .u8 (k : Int), .int .u8 l, .int .u8 m, .int .u8 h] 109)).cell? ⟨w.heap.size, 4, none⟩ = some (.int .i64 n) := by
    rw [World.cell?_alloc_lt _ _ _ (show _ < _ from hz1)]; exact x4
  have hq0 : (w1.alloc (.cells #[.int .u8 (k : Int), .int .u8 l, .int .u8 m, .int .u8 h] 109)).cell? ⟨w1.heap.size, 0, none⟩ = some (.int .u8 (k : Int)) := by rw [cell_of_row _ _ _ _ _ _ (heap_alloc_last w1 _)]; rfl
  have hq1 : (w1.alloc (.cells #[.int .u8 (k : Int), .int .u8 l, .int .u8 m, .int .u8 h] 109)).cell? ⟨w1.heap.size, 1, none⟩ = some (.int .u8 l) := by rw [cell_of_row _ _ _ _ _ _ (heap_alloc_last w1 _)]; rfl
  have hq2 : (w1.alloc (.cells #[.int .u8 (k : Int), .int .u8 l, .int .u8 m, .int .u8 h] 109)).cell? ⟨w1.heap.size, 2, none⟩ = some (.int .u8 m) := by rw [cell_of_row _ _ _ _ _ _ (heap_alloc_last w1 _)]; rfl
  have hq3 : (w1.alloc (.cells #[.int .u8 (k : Int), .int .u8 l, .int .u8 m, .int .u8 h] 109)).cell? ⟨w1.heap.size, 3, none⟩ = some (.int .u8 h) := by rw [cell_of_row _ _ _ _ _ _ (heap_alloc_last w1 _)]; rfl
  have HW : Hid (Below w.heap.size w (w1.alloc (.cells #[.int .u8 (k : Int), .int .u8 l, .int .u8 m, .int .u8 h] 109))) := HB.out.alloc (by omega) _
  generalize w1.alloc (.cells #[.int .u8 (k : Int), .int .u8 l, .int .u8 m, .int .u8 h] 109) = W at *
  have k4 := cell_regrown hx4
  have k0 := cell_regrown hq0
  have k1 := cell_regrown hq1
  have k2 := cell_regrown hq2
  have k3 := cell_regrown hq3
  have CO : Hid (∀ d os, Calls Tryd.prog 58 #[.agg #[.int .u8 (k : Int), .int .u8 l, .int .u8 m, .int .u8 h]] (grow (redrawn W d) os) fun e w'' => e = .returned (.int .u32 (obV l m h)) ∧ ∃ p : Regrown, w'' = grow (redrawn W p.d) p.os) :=
    fun d os => Calls.regrown_of (opBits_any _ _ _ _ _ hl hl1 hm hm1 hh hh1)
  have CS : Hid (∀ d os, Calls Tryd.prog 59 #[.int .i64 n, .agg cs.toArray] (grow (redrawn W d) os) fun e w'' => e = .returned (.int .u32 (spreadV n s)) ∧ ∃ p : Regrown, w'' = grow (redrawn W p.d) p.os) :=
    fun d os => Calls.regrown_of (spread_any _ _ _ _ hc hs)
  clear x0 x1 x2 x3 x4 f0 f1 f2 f3 hx4 hq0 hq1 hq2 hq3
  have hk8 : (k : Int) < 8 := by omega
  have hk0 : (0 : Int) ≤ (k : Int) := by omega
  refine wp_region_quiet_below (by kernel_rfl) (by kernel_rfl) ?_
  repeat (first
    | refine wpQuiet_load_mid rfl 117 _ rfl 1 (k * 19) rfl cs _ (by rintro w' ⟨⟨d, os⟩, rfl⟩; exact RY.out d os) Tryd.underlying117 rfl SZ.out ?_
    | quiet_step (first | exact CO.out _ _ | exact CS.out _ _))
  refine wpQuiet_nil ?_
  intro _ hw'
  obtain ⟨⟨dq, osq⟩, hw''⟩ := hw'
  subst hw''
  go_wp2
  go_ret2
  exact ⟨rfl, HW.out.trans ((below_regrown W dq osq).mono HW.out.size)⟩
end Go.Proofs.YtaodcpdkobhmfaaDoor

namespace Go.Proofs.YtaodcpdkobhmfaaDoor
open Go Go.RowKit

def gat (x z pf pt pc : Int) : Int := bits .or .i64 z (wrap64 (bits .and .i64 (x / pt) (pc - 1) * pf))
def gatTo (x : Int) (ms : List (Int × Int × Int)) (k : Nat) : Int := (ms.take k).foldl (fun s m => gat x s m.1 m.2.1 m.2.2) 0

def sgV (sg : Bool) (z ph pw : Int) : Int := if sg && z / ph != 0 then wrap64 (z - pw) else z

set_option maxRecDepth 100000 in
set_option maxHeartbeats 1000000 in
theorem gather_core (x : Int) (cs : List Value) (w : World) (hz : cs.length = 19) (hx0 : 0 ≤ x) (hx1 : x < 4294967296)
    (sg : Bool) (wd pw ph : Int)
    (f0 t0 c0 pf0 pt0 pc0 f1 t1 c1 pf1 pt1 pc1 f2 t2 c2 pf2 pt2 pc2 f3 t3 c3 pf3 pt3 pc3 : Int)
    (g3 : ∀ h : 3 < cs.length, cs[3]'h = .bool sg) (g4 : ∀ h : 4 < cs.length, cs[4]'h = .int .u8 wd)
    (g7 : ∀ h : 7 < cs.length, cs[7]'h = .int .u8 f0) (g8 : ∀ h : 8 < cs.length, cs[8]'h = .int .u8 t0) (g9 : ∀ h : 9 < cs.length, cs[9]'h = .int .u8 c0)
    (g10 : ∀ h : 10 < cs.length, cs[10]'h = .int .u8 f1) (g11 : ∀ h : 11 < cs.length, cs[11]'h = .int .u8 t1) (g12 : ∀ h : 12 < cs.length, cs[12]'h = .int .u8 c1)
    (g13 : ∀ h : 13 < cs.length, cs[13]'h = .int .u8 f2) (g14 : ∀ h : 14 < cs.length, cs[14]'h = .int .u8 t2) (g15 : ∀ h : 15 < cs.length, cs[15]'h = .int .u8 c2)
    (g16 : ∀ h : 16 < cs.length, cs[16]'h = .int .u8 f3) (g17 : ∀ h : 17 < cs.length, cs[17]'h = .int .u8 t3) (g18 : ∀ h : 18 < cs.length, cs[18]'h = .int .u8 c3)
    (m0 : Mv f0 t0 c0 pf0 pt0 pc0) (m1 : Mv f1 t1 c1 pf1 pt1 pc1) (m2 : Mv f2 t2 c2 pf2 pt2 pc2) (m3 : Mv f3 t3 c3 pf3 pt3 pc3)
    (hsg : sg = true → 1 ≤ wd ∧ wd ≤ 32 ∧ (2 : Int) ^ (wd.toNat - 1) = ph ∧ (2 : Int) ^ wd.toNat = pw ∧ 1 ≤ pw ∧ pw ≤ 4294967296) :
    Calls Tryd.prog 73 #[.int .u32 x, .agg cs.toArray] w fun e w' => e = .returned (.int .i64 (sgV sg (gatTo x [(pf0, pt0, pc0), (pf1, pt1, pc1), (pf2, pt2, pc2), (pf3, pt3, pc3)] 4) ph pw)) ∧ Below w.heap.size w w' := by
  have hz' : cs.toArray.size = 19 := by simpa using hz
  go_enter Tryd.func73, Tryd.ntmps73
  go_wp2_with fail
  go_loopw [5, 10] (fun s i wr => ∃ (k : Nat) (z : Int), k ≤ 4 ∧ i = .int .i64 k ∧ s = .int .i64 z ∧ z = gatTo x [(pf0, pt0, pc0), (pf1, pt1, pc1), (pf2, pt2, pc2), (pf3, pt3, pc3)] k ∧ Below (w.heap.size + 1) (w.alloc (.cells cs.toArray 117)) wr) (fun _ i _ => 4 - (intOf i).toNat)
  case atStart => exact ⟨0, 0, by omega, rfl, rfl, rfl, Below.refl _ _⟩
  case round =>
    obtain ⟨k, z, hk, rfl, rfl, hzk, hb⟩ := hrel
    have HZ : Hid (z = gatTo x [(pf0, pt0, pc0), (pf1, pt1, pc1), (pf2, pt2, pc2), (pf3, pt3, pc3)] k) := hzk
    clear hzk
    have hsz := hb.size
    simp at hsz
    have hk4 : k = 0 ∨ k = 1 ∨ k = 2 ∨ k = 3 ∨ k = 4 := by omega
    rcases hk4 with rfl | rfl | rfl | rfl | rfl
    · clear m1 m2 m3
      obtain ⟨a1, a2, a3, a4, a5, a6, a7, a8, a9, a10, a11⟩ := m0
      have hix := idx0
      go_wp2_with fail
      go_quiet ((go_at_call 70; exact Calls.quiet_of_same (ones_any _ _ _ a5 a6 a9 a10 a11)))
      go_wp2
      exact ⟨⟨1, _, by omega, rfl, rfl, by rw [HZ.out]; rfl, below_drewN (hb.alloc hsz _) _⟩, by simp [intOf]⟩
    · clear m0 m2 m3
      obtain ⟨a1, a2, a3, a4, a5, a6, a7, a8, a9, a10, a11⟩ := m1
      have hix := idx1
      go_wp2_with fail
      go_quiet ((go_at_call 70; exact Calls.quiet_of_same (ones_any _ _ _ a5 a6 a9 a10 a11)))
      go_wp2
      exact ⟨⟨2, _, by omega, rfl, rfl, by rw [HZ.out]; rfl, below_drewN (hb.alloc hsz _) _⟩, by simp [intOf]⟩
    · clear m0 m1 m3
      obtain ⟨a1, a2, a3, a4, a5, a6, a7, a8, a9, a10, a11⟩ := m2
      have hix := idx2
      go_wp2_with fail
      go_quiet ((go_at_call 70; exact Calls.quiet_of_same (ones_any _ _ _ a5 a6 a9 a10 a11)))
      go_wp2
      exact ⟨⟨3, _, by omega, rfl, rfl, by rw [HZ.out]; rfl, below_drewN (hb.alloc hsz _) _⟩, by simp [intOf]⟩
    · clear m0 m1 m2
      obtain ⟨a1, a2, a3, a4, a5, a6, a7, a8, a9, a10, a11⟩ := m3
      have hix := idx3
      go_wp2_with fail
      go_quiet ((go_at_call 70; exact Calls.quiet_of_same (ones_any _ _ _ a5 a6 a9 a10 a11)))
      go_wp2
      exact ⟨⟨4, _, by omega, rfl, rfl, by rw [HZ.out]; rfl, below_drewN (hb.alloc hsz _) _⟩, by simp [intOf]⟩
    · have q3 : wr.cell? ⟨w.heap.size, 3, none⟩ = some (.bool sg) := by
        rw [hb.cell (p := ⟨w.heap.size, 3, none⟩) (Nat.lt_succ_self _), cell_of_row _ _ _ _ _ _ (heap_alloc_last w _)]
        simp [hz, g3]
      have q4 : wr.cell? ⟨w.heap.size, 4, none⟩ = some (.int .u8 wd) := by
        rw [hb.cell (p := ⟨w.heap.size, 4, none⟩) (Nat.lt_succ_self _), cell_of_row _ _ _ _ _ _ (heap_alloc_last w _)]
        simp [hz, g4]
      clear m0 m1 m2 m3
      have HB : Hid (Below w.heap.size w wr) := ((Below.refl _ _).alloc (Nat.le_refl _) _).trans (hb.mono (by omega))
      clear hb
      cases sg
      · go_wp2
        go_ret
        exact ⟨ret_int (by rw [HZ.out]; simp [sgV]), HB.out⟩
      · obtain ⟨v1, v2, v3, v4, v5, v6⟩ := hsg rfl
        clear hsg
        by_cases hq : z / ph = 0
        · have hq' : (z / ph != 0) = false := by simp [hq]
          clear hq
          go_wp2
          go_ret
          exact ⟨ret_int (by rw [← HZ.out]; simp [sgV, hq']), HB.out⟩
        · have hq' : (z / ph != 0) = true := by simp [hq]
          clear hq
          go_wp2
          go_ret
          exact ⟨ret_int (by rw [← HZ.out]; simp [sgV, hq']), HB.out⟩

def gatherV (x ph : Int) (s : Sh) : Int := sgV s.sg (gatTo x s.ms 4) ph s.pw
theorem gather_any (x ph : Int) (cs : List Value) (s : Sh) (w : World) (hx0 : 0 ≤ x) (hx1 : x < 4294967296) (hc : ShIs cs s) (hs : ShOk s) (hp : s.sg = true → (2 : Int) ^ (s.wd.toNat - 1) = ph) :
    Calls Tryd.prog 73 #[.int .u32 x, .agg cs.toArray] w fun e w' => e = .returned (.int .i64 (gatherV x ph s)) ∧ Below w.heap.size w w' :=
  gather_core x cs w hc.len hx0 hx1 s.sg s.wd s.pw ph s.f0 s.t0 s.c0 s.pf0 s.pt0 s.pc0 s.f1 s.t1 s.c1 s.pf1 s.pt1 s.pc1 s.f2 s.t2 s.c2 s.pf2 s.pt2 s.pc2 s.f3 s.t3 s.c3 s.pf3 s.pt3 s.pc3
    hc.g3 hc.g4 hc.g7 hc.g8 hc.g9 hc.g10 hc.g11 hc.g12 hc.g13 hc.g14 hc.g15 hc.g16 hc.g17 hc.g18 hs.m0 hs.m1 hs.m2 hs.m3 (fun h => ⟨hs.sw h, hs.w1, hp h, hs.ew, hs.pw1, hs.pw2⟩)
end Go.Proofs.YtaodcpdkobhmfaaDoor
