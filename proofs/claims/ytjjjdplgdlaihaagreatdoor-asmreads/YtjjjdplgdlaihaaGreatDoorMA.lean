/- Laws of any program: a whole struct loaded out of, and stored into, memory, at a plain list of operations (guarded or not) and in a region that draws its order and only reads; cells of a range in later worlds. What package word's tables hold, as the walks ask it: a shape's fields, its cells, and where a form and a shape lie in memory. Package word's small functions, walked: ones, registerFits, register, pick, opBits, numberFits, spread, gather. Package word's numberFits, spread, gather, walked. -/
import Derived.WalkKit
import Derived.WalkSpells
import Derived.WalkLawsBesides
import Derived.Deep.MidRow
import Derived.Deep.WholeRow
import Derived.Deep.QuietTactic
import Derived.BigQuiet
import Derived.Lib.QuietBelow
import Derived.Test.YtjjjdplgdlaihaaGreatDoorRows
namespace Go.Proofs.YtjjjdplgdlaihaaGreatDoor
open Go Go.RowKit
section
variable {P : Program}

theorem wpList_load_w {ops : Array Oper} {rest : List Oper} {op : Oper} {a : Act} {w : World} {Q : Exit → Act → World → Prop} (hw : Region.wanted op (yielded ops a.tmps) = true) (ty : TypeId) (x : Operand) (ho : op.op = .load ty x)
    (b o : Nat) (hx : a.eval x = .pointer (some ⟨b, o, none⟩)) (cs : List Value) (d : TypeDesc) (hc : w.rangeAt b o cs)
    (hu : P.underlying ty = some d) (hd : d.isRow = true) (hi : (P.info? ty).map (·.size) = some cs.length)
    (h : wpList P ops Q rest (a.put op.dst (.agg cs.toArray)) w) : wpList P ops Q (op :: rest) a w := by
  unfold wpList
  rw [if_pos hw]
  exact .inl (wp_load_mid ty x ho b o hx cs d hc hu hd hi h)

theorem wpList_store_new {ops : Array Oper} {rest : List Oper} {op : Oper} {a : Act} {w : World} {Q : Exit → Act → World → Prop} (hgd : op.guard = none) (ty : TypeId) (x y : Operand) (ho : op.op = .store ty x y)
    (b : Nat) (c : Array Value) (cs : List Value) (hx : a.eval x = .pointer (some ⟨b, 0, none⟩)) (hy : a.eval y = .agg cs.toArray) (hb : b = w.heap.size)
    (hi : (P.info? ty).map (·.size) = some cs.length) (hl : c.size = cs.length) (h1 : ∀ v ∈ cs, v.oneCell' = true)
    (h : wpList P ops Q rest (a.put op.dst undef) (w.alloc (.cells cs.toArray ty))) : wpList P ops Q (op :: rest) a (w.alloc (.cells c ty)) := by
  subst hb
  refine wpList_plain hgd fun K hK => ?_
  unfold Oper.wp execOp
  simp only [ho, hx, hy, Sem.run_bind, Sem.run_pure, Result.andThen_ok, run_storeAt_new (P := P) w ty c cs.toArray (by simpa using hi) (by simpa using hl) (all_oneCell_toArray h1)]
  exact hK _ _ h

theorem rangeAt_new (w : World) (cs : List Value) (t : TypeId) (b : Nat) (hb : b = w.heap.size) : (w.alloc (.cells cs.toArray t)).rangeAt b 0 cs := by
  subst hb
  intro j v hv
  have : (w.alloc (.cells cs.toArray t)).heap[w.heap.size]? = some (.cells cs.toArray t) := heap_alloc_last w _
  rw [cell_of_row _ _ _ _ _ _ this]
  simpa using hv

theorem rangeAt_below {w w' : World} {B b o : Nat} {cs : List Value} (h : w.rangeAt b o cs) (hb : Below B w w') (hB : b < B) : w'.rangeAt b o cs := fun j v hv => by
  rw [hb.cell (p := ⟨b, o + j, none⟩) hB]; exact h j v hv

theorem rangeAt_drewN {w : World} {b o n : Nat} {cs : List Value} (h : w.rangeAt b o cs) : (w.drewN n).rangeAt b o cs := fun j v hv => by
  rw [show (w.drewN n).cell? ⟨b, o + j, none⟩ = w.cell? ⟨b, o + j, none⟩ from by simp]; exact h j v hv

theorem wpQuiet_load_mid {ops : Array Oper} {C : World → Prop} {Q : Act → Prop} {a : Act} {op : Oper} {rest : List Oper} (hw : Region.wanted op (yielded ops a.tmps) = true) (ty : TypeId) (x : Operand) (ho : op.op = .load ty x)
    (b o : Nat) (hx : a.eval x = .pointer (some ⟨b, o, none⟩)) (cs : List Value) (d : TypeDesc) (hc : ∀ w, C w → w.rangeAt b o cs)
    (hu : P.underlying ty = some d) (hd : d.isRow = true) (hi : (P.info? ty).map (·.size) = some cs.length)
    (h : wpQuiet P ops C Q rest (a.put op.dst (.agg cs.toArray))) : wpQuiet P ops C Q (op :: rest) a := by
  refine wpQuiet_step (fun K hK => ?_)
  rw [if_pos hw]
  refine ⟨.agg cs.toArray, fun w hw' => ?_, hK _ h⟩
  unfold Oper.quietAt execOp
  simp only [ho, hx, Instr.loadAt, Instr.sureAddr, Sem.run_bind, Sem.run_pure, Result.andThen_ok, run_loadVar_mid w b o ty cs d (hc w hw') hu hd hi]
  exact ⟨rfl, rfl⟩
end
end Go.Proofs.YtjjjdplgdlaihaaGreatDoor

namespace Go.Proofs.YtjjjdplgdlaihaaGreatDoor
open Go Go.RowKit

structure Sh where
  rd : Bool
  ra : Bool
  rb : Bool
  sg : Bool
  wd : Int
  zs : Int
  fx : Int
  f0 : Int
  t0 : Int
  c0 : Int
  f1 : Int
  t1 : Int
  c1 : Int
  f2 : Int
  t2 : Int
  c2 : Int
  f3 : Int
  t3 : Int
  c3 : Int
  pf0 : Int
  pt0 : Int
  pc0 : Int
  pf1 : Int
  pt1 : Int
  pc1 : Int
  pf2 : Int
  pt2 : Int
  pc2 : Int
  pf3 : Int
  pt3 : Int
  pc3 : Int
  pw : Int
  pz : Int

/-- The cells of a shape, nineteen. -/
structure ShIs (cs : List Value) (s : Sh) : Prop where
  len : cs.length = 19
  one : ∀ v ∈ cs, v.oneCell' = true
  g0 : ∀ h : 0 < cs.length, cs[0]'h = .bool s.rd
  g1 : ∀ h : 1 < cs.length, cs[1]'h = .bool s.ra
  g2 : ∀ h : 2 < cs.length, cs[2]'h = .bool s.rb
  g3 : ∀ h : 3 < cs.length, cs[3]'h = .bool s.sg
  g4 : ∀ h : 4 < cs.length, cs[4]'h = .int .u8 s.wd
  g5 : ∀ h : 5 < cs.length, cs[5]'h = .int .u8 s.zs
  g6 : ∀ h : 6 < cs.length, cs[6]'h = .int .u32 s.fx
  g7 : ∀ h : 7 < cs.length, cs[7]'h = .int .u8 s.f0
  g8 : ∀ h : 8 < cs.length, cs[8]'h = .int .u8 s.t0
  g9 : ∀ h : 9 < cs.length, cs[9]'h = .int .u8 s.c0
  g10 : ∀ h : 10 < cs.length, cs[10]'h = .int .u8 s.f1
  g11 : ∀ h : 11 < cs.length, cs[11]'h = .int .u8 s.t1
  g12 : ∀ h : 12 < cs.length, cs[12]'h = .int .u8 s.c1
  g13 : ∀ h : 13 < cs.length, cs[13]'h = .int .u8 s.f2
  g14 : ∀ h : 14 < cs.length, cs[14]'h = .int .u8 s.t2
  g15 : ∀ h : 15 < cs.length, cs[15]'h = .int .u8 s.c2
  g16 : ∀ h : 16 < cs.length, cs[16]'h = .int .u8 s.f3
  g17 : ∀ h : 17 < cs.length, cs[17]'h = .int .u8 s.t3
  g18 : ∀ h : 18 < cs.length, cs[18]'h = .int .u8 s.c3

/-- One of a shape's moves, with the powers of two that go with it. -/
structure Mv (f t c pf pt pc : Int) : Prop where
  f0 : 0 ≤ f
  f1 : f ≤ 63
  t0 : 0 ≤ t
  t1 : t ≤ 31
  c0 : 0 ≤ c
  c1 : c ≤ 32
  ef : (2 : Int) ^ f.toNat = pf
  et : (2 : Int) ^ t.toNat = pt
  ec : (2 : Int) ^ c.toNat = pc
  pc1 : 1 ≤ pc
  pc2 : pc ≤ 4294967296

structure ShOk (s : Sh) : Prop where
  w0 : 0 ≤ s.wd
  w1 : s.wd ≤ 32
  z0 : 0 ≤ s.zs
  z1 : s.zs ≤ 32
  ew : (2 : Int) ^ s.wd.toNat = s.pw
  ez : (2 : Int) ^ s.zs.toNat = s.pz
  pw1 : 1 ≤ s.pw
  pw2 : s.pw ≤ 4294967296
  pz1 : 1 ≤ s.pz
  pz2 : s.pz ≤ 4294967296
  sw : s.sg = true → 1 ≤ s.wd
  m0 : Mv s.f0 s.t0 s.c0 s.pf0 s.pt0 s.pc0
  m1 : Mv s.f1 s.t1 s.c1 s.pf1 s.pt1 s.pc1
  m2 : Mv s.f2 s.t2 s.c2 s.pf2 s.pt2 s.pc2
  m3 : Mv s.f3 s.t3 s.c3 s.pf3 s.pt3 s.pc3

/-- In memory: form number o, and shape number k, its cells cs. -/
structure TabAt (w : World) (o k : Nat) (l m h : Int) (cs : List Value) : Prop where
  z0 : 3 < w.heap.size
  z1 : 2 < w.heap.size
  f0 : w.cell? ⟨3, o * 4, none⟩ = some (.int .u8 (k : Int))
  f1 : w.cell? ⟨3, o * 4 + 1, none⟩ = some (.int .u8 l)
  f2 : w.cell? ⟨3, o * 4 + 2, none⟩ = some (.int .u8 m)
  f3 : w.cell? ⟨3, o * 4 + 3, none⟩ = some (.int .u8 h)
  rng : w.rangeAt 2 (k * 19) cs

theorem TabAt.below {w w' : World} {o k : Nat} {l m h : Int} {cs : List Value} (ht : TabAt w o k l m h cs) (hb : Below w.heap.size w w') : TabAt w' o k l m h cs := by
  have c0 : ∀ j, w'.cell? ⟨3, j, none⟩ = w.cell? ⟨3, j, none⟩ := fun j => hb.cell (p := ⟨3, j, none⟩) ht.z0
  have hs := hb.size
  exact ⟨Nat.lt_of_lt_of_le ht.z0 hs, Nat.lt_of_lt_of_le ht.z1 hs, (c0 _).trans ht.f0, (c0 _).trans ht.f1, (c0 _).trans ht.f2, (c0 _).trans ht.f3, rangeAt_below ht.rng hb ht.z1⟩

theorem size61 {cs : List Value} {s : Sh} (h : ShIs cs s) : (Tryz.prog.info? 132).map (·.size) = some cs.length := by
  rw [h.len]; kernel_rfl
end Go.Proofs.YtjjjdplgdlaihaaGreatDoor

namespace Go.Proofs.YtjjjdplgdlaihaaGreatDoor
open Go Go.RowKit

theorem ret_int {k : IntKind} {a b : Int} (h : a = b) : Ending.returned (.int k a) = .returned (.int k b) := by rw [h]
theorem ret_bool {a b : Bool} (h : a = b) : Ending.returned (.bool a) = .returned (.bool b) := by rw [h]

set_option maxHeartbeats 400000 in
theorem ones_any (c p : Int) (w : World) (h0 : 0 ≤ c) (h1 : c ≤ 32) (hp : (2 : Int) ^ c.toNat = p) (hp1 : 1 ≤ p) (hp2 : p ≤ 4294967296) :
    Calls Tryz.prog 97 #[.int .u8 c] w fun e w' => e = .returned (.int .i64 (p - 1)) ∧ w' = w := by
  go_enter Tryz.func97, Tryz.ntmps97
  go_wp2
  go_ret
  exact ⟨rfl, rfl⟩

def fitB (r : Int) (has : Bool) : Bool := r == 0 || has && decide (0 < r) && decide (r < 32)

set_option maxHeartbeats 400000 in
theorem registerFits_any (r : Int) (has : Bool) (w : World) :
    Calls Tryz.prog 71 #[.int .i64 r, .bool has] w fun e w' => e = .returned (.bool (fitB r has)) ∧ w' = w := by
  by_cases h0 : r = 0
  · subst h0
    go_enter Tryz.func71, Tryz.ntmps71
    go_wp2
    go_ret
    exact ⟨ret_bool (by simp [fitB]), rfl⟩
  · have h0' : (r == 0) = false := by simpa using h0
    cases has
    · go_enter Tryz.func71, Tryz.ntmps71
      go_wp2
      go_ret
      exact ⟨ret_bool (by simp [fitB, h0']), rfl⟩
    · by_cases h1 : 0 < r
      · go_enter Tryz.func71, Tryz.ntmps71
        go_wp2
        go_ret
        exact ⟨ret_bool (by simp [fitB, h0', h1]), rfl⟩
      · go_enter Tryz.func71, Tryz.ntmps71
        go_wp2
        go_ret
        exact ⟨ret_bool (by simp [fitB, h0']; omega), rfl⟩

def regV (x p : Int) (has : Bool) : Int := if has then bits .and .u32 (x / p) 31 else 0
theorem bits_u32_lt (op : BinOp) (x y : Int) : 0 ≤ bits op .u32 x y ∧ bits op .u32 x y < 4294967296 := by
  unfold bits
  generalize (match op with
    | .and => BitVec.ofInt IntKind.u32.bits x &&& BitVec.ofInt IntKind.u32.bits y
    | .or => BitVec.ofInt IntKind.u32.bits x ||| BitVec.ofInt IntKind.u32.bits y
    | .xor => BitVec.ofInt IntKind.u32.bits x ^^^ BitVec.ofInt IntKind.u32.bits y
    | _ => BitVec.ofInt IntKind.u32.bits x &&& ~~~BitVec.ofInt IntKind.u32.bits y) = z
  have := z.isLt
  simp only [IntKind.wrap, IntKind.bits, IntKind.signed] at *
  simp
  omega

def obV (l m h : Int) : Int := bits .or .u32 (bits .or .u32 l (m * 4096)) (h * 33554432)
end Go.Proofs.YtjjjdplgdlaihaaGreatDoor

namespace Go.Proofs.YtjjjdplgdlaihaaGreatDoor
open Go Go.RowKit

def Sh.lo (s : Sh) : Int := if s.sg then -(s.pw / 2) else 0
def Sh.hi (s : Sh) : Int := if s.sg then s.pw / 2 else s.pw
def nfB (n : Int) (s : Sh) : Bool := decide (s.lo ≤ n) && decide (n < s.hi) && (bits .and .i64 n (s.pz - 1) == 0)

set_option maxHeartbeats 400000 in
theorem numberFits_u (v : Bool) (n p q : Int) (cs : List Value) (wd zs : Int) (w : World) (hz : cs.length = 19) (g3 : ∀ h : 3 < cs.length, cs[3]'h = .bool false) (g4 : ∀ h : 4 < cs.length, cs[4]'h = .int .u8 wd) (g5 : ∀ h : 5 < cs.length, cs[5]'h = .int .u8 zs) (h0 : 0 ≤ wd) (h1 : wd ≤ 32) (h2 : 0 ≤ zs) (h3 : zs ≤ 32)
    (hp : (2 : Int) ^ wd.toNat = p) (hp1 : 1 ≤ p) (hp2 : p ≤ 4294967296) (hq : (2 : Int) ^ zs.toNat = q) (hq1 : 1 ≤ q) (hq2 : q ≤ 4294967296)
    (hv : v = (decide (0 ≤ n) && decide (n < p) && (bits .and .i64 n (q - 1) == 0))) :
    Calls Tryz.prog 72 #[.int .i64 n, .agg cs.toArray] w fun e w' => e = .returned (.bool v) ∧ Below w.heap.size w w' := by
  have HQ : Hid ((2 : Int) ^ zs.toNat = q) := hq
  have HV : Hid (v = (decide (0 ≤ n) && decide (n < p) && (bits .and .i64 n (q - 1) == 0))) := hv
  clear hq hv
  have hz' : cs.toArray.size = 19 := by simpa using hz
  go_enter Tryz.func72, Tryz.ntmps72
  go_wp2_with fail
  go_quiet (fail)
  go_wp2_with (go_at_call 97; refine (ones_any _ _ _ (by omega) (by omega) HQ.out hq1 hq2).mono ?_; rintro e w' ⟨rfl, rfl⟩)
  all_goals
    go_ret
    refine ⟨ret_bool ?_, below_drewN ((Below.refl _ _).alloc (Nat.le_refl _) _) _⟩
    rw [HV.out]
    simp
    try omega

set_option maxHeartbeats 400000 in
theorem numberFits_s (v : Bool) (n p q : Int) (cs : List Value) (wd zs : Int) (w : World) (hz : cs.length = 19) (g3 : ∀ h : 3 < cs.length, cs[3]'h = .bool true) (g4 : ∀ h : 4 < cs.length, cs[4]'h = .int .u8 wd) (g5 : ∀ h : 5 < cs.length, cs[5]'h = .int .u8 zs) (h0 : 0 ≤ wd) (h1 : wd ≤ 32) (h2 : 0 ≤ zs) (h3 : zs ≤ 32)
    (hp : (2 : Int) ^ wd.toNat = p) (hp1 : 1 ≤ p) (hp2 : p ≤ 4294967296) (hq : (2 : Int) ^ zs.toNat = q) (hq1 : 1 ≤ q) (hq2 : q ≤ 4294967296)
    (hv : v = (decide (-(p / 2) ≤ n) && decide (n < p / 2) && (bits .and .i64 n (q - 1) == 0))) :
    Calls Tryz.prog 72 #[.int .i64 n, .agg cs.toArray] w fun e w' => e = .returned (.bool v) ∧ Below w.heap.size w w' := by
  have HQ : Hid ((2 : Int) ^ zs.toNat = q) := hq
  have HV : Hid (v = (decide (-(p / 2) ≤ n) && decide (n < p / 2) && (bits .and .i64 n (q - 1) == 0))) := hv
  clear hq hv
  have hz' : cs.toArray.size = 19 := by simpa using hz
  go_enter Tryz.func72, Tryz.ntmps72
  go_wp2_with fail
  go_quiet (fail)
  go_wp2_with (go_at_call 97; refine (ones_any _ _ _ (by omega) (by omega) HQ.out hq1 hq2).mono ?_; rintro e w' ⟨rfl, rfl⟩)
  all_goals
    go_ret
    refine ⟨ret_bool ?_, below_drewN ((Below.refl _ _).alloc (Nat.le_refl _) _) _⟩
    rw [HV.out]
    simp
    try omega

theorem numberFits_any (n : Int) (cs : List Value) (s : Sh) (w : World) (hc : ShIs cs s) (hs : ShOk s) :
    Calls Tryz.prog 72 #[.int .i64 n, .agg cs.toArray] w fun e w' => e = .returned (.bool (nfB n s)) ∧ Below w.heap.size w w' := by
  cases hg : s.sg with
  | false => exact numberFits_u _ n s.pw s.pz cs s.wd s.zs w hc.len (fun h => by rw [hc.g3 h, hg]) hc.g4 hc.g5 hs.w0 hs.w1 hs.z0 hs.z1 hs.ew hs.pw1 hs.pw2 hs.ez hs.pz1 hs.pz2 (by simp [nfB, Sh.lo, Sh.hi, hg])
  | true => exact numberFits_s _ n s.pw s.pz cs s.wd s.zs w hc.len (fun h => by rw [hc.g3 h, hg]) hc.g4 hc.g5 hs.w0 hs.w1 hs.z0 hs.z1 hs.ew hs.pw1 hs.pw2 hs.ez hs.pz1 hs.pz2 (by simp [nfB, Sh.lo, Sh.hi, hg])

end Go.Proofs.YtjjjdplgdlaihaaGreatDoor
