/- FE FF GK -/
import Derived.Test.YtjmbjpimabnohaaDoorK15
namespace Go.Proofs.YtjmbjpimabnohaaDoor.Mid
set_option linter.unusedVariables false
set_option linter.unusedSimpArgs false
open Go Go.RowKit
theorem row_step {w : World} {B : Nat} {l : List Ms} {q : Option Addr} {ns c : Nat} (h : w.ownsRow B 44 10 (.slice q ns c) ns (rowC l)) {j : Nat} {s : Ms} (hj : l[j]? = some s) : ∃ g, q = some ⟨g, 0, none⟩ ∧ ∀ i, i < 10 → w.cell? ⟨g, j * 10 + i, none⟩ = (sC s)[i]? := by
  have hx := rowC_get l j s hj
  rcases own_row h with ⟨e1, e2⟩ | ⟨g, cap, e1, e2, e3⟩
  · have hl := h.1
    rw [rowC_len, e2] at hl
    have := (List.getElem?_eq_some_iff.1 hj).1
    omega
  · injection e1 with e1
    refine ⟨g, e1, fun i hi => ?_⟩
    have hlen : (sC s).length = 10 := rfl
    have h9 := hx i hi
    have hsi : (sC s)[i]? = some ((sC s)[i]'(by omega)) := List.getElem?_eq_getElem _
    rw [hsi]
    exact e3 _ _ (h9.trans hsi)
theorem row_l83 {w : World} {B : Nat} {l : List Ms} {q : Option Addr} {ns c : Nat} (h : w.ownsRow B 44 10 (.slice q ns c) ns (rowC l)) {j : Nat} {s : Ms} (hj : l[j]? = some s) {ob fb nt : Nat} {tq : Option Addr} {tc : Nat} (h1 : w.heap[ob]? = some (.cells #[.bool true] 4)) (h2 : w.cell? ⟨fb, 2, none⟩ = some (.slice tq nt tc)) : ∃ g, q = some ⟨g, 0, none⟩ ∧ L83 w ob fb nt tq tc g (j * 10) s := by
  obtain ⟨g, e, hc⟩ := row_step h hj
  have h0 := hc 0 (by omega)
  rw [Nat.add_zero] at h0
  exact ⟨g, e, h1, h2, h0, hc 1 (by omega), hc 2 (by omega), hc 3 (by omega)⟩
def BtP (w : World) (b : Bool) (e : Ending) (w' : World) : Prop := e = .returned (.bool b) ∧ Below w.heap.size w w'
set_option maxRecDepth 100000 in
set_option maxHeartbeats 4000000 in
theorem sound_any (w : World) (B : Nat) (v : Value) (y : ByteArray) (tl : List Int) (l : List Ms) (h : FlM w B v y tl l) (hff : FfE w) (hs : ∀ s ∈ l, Strt tl.length s) (hl : l.length ≤ 1000000) : Calls Tryd.prog 65 #[v] w (BtP w true) := by
  obtain ⟨tv, sv, rfl, h1, h2⟩ := h
  obtain ⟨tq, tc, rfl⟩ := own_slice h1
  obtain ⟨sq, sc, rfl⟩ := own_slice h2
  obtain ⟨nt, hnt⟩ : ∃ nt, tl.length = nt := ⟨_, rfl⟩
  obtain ⟨ns, hns⟩ : ∃ ns, l.length = ns := ⟨_, rfl⟩
  rw [hns] at h2 hl
  rw [hnt] at hs
  obtain ⟨W2, hW2⟩ : ∃ W2, W2 = (w.alloc (.cells #[.string y, .int .i64 0, .slice tq nt tc, .slice sq ns sc] 35)).alloc (.cells #[.bool true] 4) := ⟨_, rfl⟩
  have hb2 : Below w.heap.size w W2 := by rw [hW2]; exact (al_bel _ _).trans ((al_bel (w.alloc _) _).mono (by simp))
  have hz2 : W2.heap.size = w.heap.size + 2 := by rw [hW2]; simp
  have k0 : W2.heap[w.heap.size]? = some (.cells #[.string y, .int .i64 0, .slice tq nt tc, .slice sq ns sc] 35) := by rw [hW2, row_eq_alloc (by simp)]; exact heap_alloc_last _ _
  have k1 : W2.heap[w.heap.size + 1]? = some (.cells #[.bool true] 4) := by
    have e : (w.alloc (.cells #[.string y, .int .i64 0, .slice tq nt tc, .slice sq ns sc] 35)).heap.size = w.heap.size + 1 := by simp
    rw [hW2, ← e]; exact heap_alloc_last _ _
  have HW2 : Hid (Below w.heap.size w W2 ∧ W2.heap.size = w.heap.size + 2 ∧ W2.heap[w.heap.size]? = some (.cells #[.string y, .int .i64 0, .slice tq nt tc, .slice sq ns sc] 35) ∧ W2.heap[w.heap.size + 1]? = some (.cells #[.bool true] 4)) := ⟨hb2, hz2, k0, k1⟩
  have HR : Hid (w.ownsRow B 44 10 (.slice sq ns sc) ns (rowC l) ∧ l.length = ns ∧ (∀ s ∈ l, Strt nt s) ∧ FfE w) := ⟨h2, hns, hs, hff⟩
  have HG : Hid (∀ W, Below w.heap.size w W → BtP w true (.returned (.bool true)) W) := fun W hb => ⟨rfl, hb⟩
  have hmf : ∀ (fn : Fn) (first cap : Array Value) (w : World), (Instr.makeFunc fn first cap).run Tryd.prog w = .ok (.func fn first cap) w := fun _ _ _ _ => rfl
  have u3 := cell_at (i := 3) k0 rfl
  rw [hW2] at u3
  generalize BtP w true = G at HG ⊢
  rw [hnt, hns]
  clear h1 h2 hff hs hb2 hz2 k0 k1 hnt hns
  go_enter Tryd.func65, Tryd.ntmps65
  go_wp2_with fail
  rw [← hW2]
  clear hW2 u3
  go_loopw [11] (fun v wr => ∃ i : Nat, i ≤ ns ∧ v = .int .i64 i ∧ Hid (Below W2.heap.size W2 wr)) (fun v _ => ns - (intOf v).toNat)
  case atStart => exact ⟨0, Nat.zero_le _, rfl, Below.refl _ _⟩
  case round =>
    obtain ⟨i, hin, rfl, HB⟩ := hrel
    have k0 : wr.heap[w.heap.size]? = some (.cells #[.string y, .int .i64 0, .slice tq nt tc, .slice sq ns sc] 35) := by rw [HB.out.block _ (by have := HW2.out.2.1; omega)]; exact HW2.out.2.2.1
    have k1 : wr.heap[w.heap.size + 1]? = some (.cells #[.bool true] 4) := by rw [HB.out.block _ (by have := HW2.out.2.1; omega)]; exact HW2.out.2.2.2
    have HBw : Hid (Below w.heap.size w wr) := HW2.out.1.trans (HB.out.mono HW2.out.1.size)
    have HK : Hid (wr.heap[w.heap.size]? = some (.cells #[.string y, .int .i64 0, .slice tq nt tc, .slice sq ns sc] 35) ∧ wr.heap[w.heap.size + 1]? = some (.cells #[.bool true] 4)) := ⟨k0, k1⟩
    by_cases hlt : i < ns
    · obtain ⟨s, hsi⟩ : ∃ s, l[i]? = some s := ⟨l[i]'(by have := HR.out.2.1; omega), List.getElem?_eq_getElem _⟩
      have hst := HR.out.2.2.1 s (List.mem_of_getElem? hsi)
      obtain ⟨g, rfl, hL⟩ := row_l83 (own_at HR.out.1 (fun k hk => HBw.out.block k (own_lt HR.out.1 k hk))) hsi k1 (cell_at (i := 2) k0 rfl)
      have HL : Hid (L83 wr (w.heap.size + 1) w.heap.size nt tq tc g (i * 10) s) := hL
      have hffr := HR.out.2.2.2.below HBw.out
      have HRd : Hid (Calls Tryd.prog 84 #[.pointer (some ⟨g, i * 10, none⟩), look83V (w.heap.size + 1) w.heap.size] wr (BlP wr)) := reads83 wr _ _ nt tq tc g (i * 10) s hL hffr hst
      have HSt : Hid (Strt nt s ∧ FfE wr) := ⟨hst, hffr⟩
      have x3 := cell_at (i := 3) k0 rfl
      have x0 := hL.c0
      obtain ⟨cd, hcd⟩ : ∃ cd, s.code = cd := ⟨_, rfl⟩
      rw [hcd] at x0
      have HCd : Hid (s.code = cd) := hcd
      have hcd4 : cd = 1 ∨ cd = 2 ∨ cd = 3 ∨ cd = 8 := by rw [← hcd]; exact hst.code
      have hcd1 : ¬ cd < 1 := by omega
      have hcd2 : ¬ 15 ≤ cd := by omega
      clear hsi hst hL hffr k0 k1 hcd
      rcases hcd4 with rfl | rfl | rfl | rfl
      · go_wp2_with (go_at_call 84; fail)
        refine HRd.out.mono ?_
        rintro e w3 ⟨rfl, hb3⟩
        have hL3 := HL.out.below hb3
        have y0 := hL3.c0
        rw [HCd.out] at y0
        obtain ⟨-, -, -, g3, -⟩ := (HSt.out.2.below hb3) 1 (by omega)
        simp only [ffm] at g3
        have HB3 : Hid (Below W2.heap.size W2 w3) := HB.out.trans (hb3.mono HB.out.size)
        have HLk : Hid (Calls Tryd.prog 83 #[.pointer (some ⟨g, i * 10 + 1, none⟩), ptr (w.heap.size + 1), ptr w.heap.size] w3 (fun e w' => e = .returned (.tuple #[]) ∧ Sm0 w3 w')) := look83 w3 g (i * 10 + 1) _ _ nt s.dst tq tc hL3.ok hL3.c1 hL3.fn (HSt.out.1.dst (by rw [HCd.out]; decide))
        clear hL3 hb3
        go_wp2_with (go_at_call 83; fail)
        refine HLk.out.mono ?_
        rintro e w4 ⟨rfl, hm⟩
        have HB4 : Hid (Below W2.heap.size W2 w4) := HB3.out.trans (hm.bel _)
        clear hm
        go_wp2
        exact ⟨⟨i + 1, by omega, by go_num, HB4⟩, by simp [intOf]; omega⟩
      · go_wp2_with (go_at_call 84; fail)
        refine HRd.out.mono ?_
        rintro e w3 ⟨rfl, hb3⟩
        have hL3 := HL.out.below hb3
        have y0 := hL3.c0
        rw [HCd.out] at y0
        obtain ⟨-, -, -, g3, -⟩ := (HSt.out.2.below hb3) 2 (by omega)
        simp only [ffm] at g3
        have HB3 : Hid (Below W2.heap.size W2 w3) := HB.out.trans (hb3.mono HB.out.size)
        have HLk : Hid (Calls Tryd.prog 83 #[.pointer (some ⟨g, i * 10 + 1, none⟩), ptr (w.heap.size + 1), ptr w.heap.size] w3 (fun e w' => e = .returned (.tuple #[]) ∧ Sm0 w3 w')) := look83 w3 g (i * 10 + 1) _ _ nt s.dst tq tc hL3.ok hL3.c1 hL3.fn (HSt.out.1.dst (by rw [HCd.out]; decide))
        clear hL3 hb3
        go_wp2_with (go_at_call 83; fail)
        refine HLk.out.mono ?_
        rintro e w4 ⟨rfl, hm⟩
        have HB4 : Hid (Below W2.heap.size W2 w4) := HB3.out.trans (hm.bel _)
        clear hm
        go_wp2
        exact ⟨⟨i + 1, by omega, by go_num, HB4⟩, by simp [intOf]; omega⟩
      · go_wp2_with (go_at_call 84; fail)
        refine HRd.out.mono ?_
        rintro e w3 ⟨rfl, hb3⟩
        have hL3 := HL.out.below hb3
        have y0 := hL3.c0
        rw [HCd.out] at y0
        obtain ⟨-, -, -, g3, -⟩ := (HSt.out.2.below hb3) 3 (by omega)
        simp only [ffm] at g3
        have HB3 : Hid (Below W2.heap.size W2 w3) := HB.out.trans (hb3.mono HB.out.size)
        have HLk : Hid (Calls Tryd.prog 83 #[.pointer (some ⟨g, i * 10 + 1, none⟩), ptr (w.heap.size + 1), ptr w.heap.size] w3 (fun e w' => e = .returned (.tuple #[]) ∧ Sm0 w3 w')) := look83 w3 g (i * 10 + 1) _ _ nt s.dst tq tc hL3.ok hL3.c1 hL3.fn (HSt.out.1.dst (by rw [HCd.out]; decide))
        clear hL3 hb3
        go_wp2_with (go_at_call 83; fail)
        refine HLk.out.mono ?_
        rintro e w4 ⟨rfl, hm⟩
        have HB4 : Hid (Below W2.heap.size W2 w4) := HB3.out.trans (hm.bel _)
        clear hm
        go_wp2
        exact ⟨⟨i + 1, by omega, by go_num, HB4⟩, by simp [intOf]; omega⟩
      · go_wp2_with (go_at_call 84; fail)
        refine HRd.out.mono ?_
        rintro e w3 ⟨rfl, hb3⟩
        have hL3 := HL.out.below hb3
        have y0 := hL3.c0
        rw [HCd.out] at y0
        obtain ⟨-, -, -, g3, -⟩ := (HSt.out.2.below hb3) 8 (by omega)
        simp only [ffm] at g3
        have HB3 : Hid (Below W2.heap.size W2 w3) := HB.out.trans (hb3.mono HB.out.size)
        clear hL3 hb3
        go_wp2
        exact ⟨⟨i + 1, by omega, by go_num, HB3⟩, by simp [intOf]; omega⟩
    · have x0 := cell_at (i := 0) k1 rfl
      clear k0 k1
      go_wp2
      exact HG.out _ HBw.out
structure StrL (nt : Nat) (l : List Ms) : Prop where
  pos : 0 < l.length
  le : l.length ≤ 1000
  all : ∀ s ∈ l, Strt nt s
  last : ∀ s, l[l.length - 1]? = some s → s.code = 8
  only : ∀ (j : Nat) (s : Ms), l[j]? = some s → s.code = 8 → j + 1 = l.length
  lab : ∀ s ∈ l, s.label = 0
set_option maxRecDepth 100000 in
set_option maxHeartbeats 1000000 in
theorem jumps_any (w : World) (g o : Nat) (cd : Int) (h : w.cell? ⟨g, o, none⟩ = some (.int .i64 cd)) (h4 : cd ≠ 4) (h5 : cd ≠ 5) : Calls Tryd.prog 70 #[.pointer (some ⟨g, o, none⟩)] w (fun e w' => e = .returned (.bool false) ∧ w' = w) := by
  have HX : Hid ((fun e w' => e = Ending.returned (.bool false) ∧ w' = w) (.returned (.bool false)) w) := ⟨rfl, rfl⟩
  generalize (fun e w' => e = Ending.returned (.bool false) ∧ w' = w) = G at HX ⊢
  have t4 : (cd == 4) = false := by simpa using h4
  have t5 : (cd == 5) = false := by simpa using h5
  go_enter Tryd.func70, Tryd.ntmps70
  go_wp2
  exact HX.out
theorem info4 : (Tryd.prog.info? 4).map (fun i => (i.zero, i.size, i.bytes)) = some (some (.bool false), 1, 1) := by kernel_rfl
theorem made_bool (n : Nat) : madeCells (Value.bool false).cells n = (List.replicate n (Value.bool false)).toArray := by
  apply Array.ext'
  apply List.ext_getElem?
  intro j
  show (madeCells #[Value.bool false] n).toList[j]? = _
  by_cases hj : j < n
  · simp [madeCells, hj, Nat.mod_one]
  · simp [madeCells, hj]
theorem mk_bools (n : Nat) (hn : n ≤ 1000000) (w : World) : (Instr.makeSlice 120 (.int .i64 (n : Int)) (.int .i64 (n : Int))).run Tryd.prog w = .ok (.slice (some ⟨w.heap.size, 0, none⟩) n n) (w.alloc (.cells (List.replicate n (Value.bool false)).toArray 4)) := by
  obtain ⟨i, hi, hz0, hz1, hz2⟩ := info_parts info4
  have := run_makeSlice w 120 4 i _ Tryd.underlying120 hi hz0 .i64 .i64 (n : Int) (n : Int) (by omega) (by omega) (by rw [hz1]; simp; omega) (by rw [hz2]; omega) (by omega)
  rw [hz1] at this
  simp only [Int.toNat_natCast, Nat.mul_one, made_bool] at this
  exact this
def sn (n k : Nat) : List Value := List.replicate k (.bool true) ++ List.replicate (n - k) (.bool false)
theorem sn_0 (n : Nat) : sn n 0 = List.replicate n (.bool false) := by simp [sn]
theorem sn_n (n : Nat) : sn n n = List.replicate n (.bool true) := by simp [sn]
theorem sn_get {n k : Nat} (h : k < n) : (sn n k)[k]? = some (.bool false) := by
  unfold sn
  rw [List.getElem?_append_right (by simp), List.length_replicate, Nat.sub_self, List.getElem?_replicate, if_pos (by omega)]
theorem sn_set {n k : Nat} (h : k < n) : (sn n k).set k (.bool true) = sn n (k + 1) := by
  unfold sn
  rw [List.set_append_right _ _ (by simp), show n - k = (n - (k + 1)) + 1 by omega, List.replicate_succ (n := n - (k + 1)), List.length_replicate, Nat.sub_self, List.set_cons_zero, List.replicate_succ' (n := k)]
  simp
theorem info93 : (Tryd.prog.info? 93).map (fun i => (i.zero, i.size, i.bytes)) = some (some (.int .u64 0), 1, 8) := by kernel_rfl
theorem mk_word (w : World) : (Instr.makeSlice 128 (.int .i64 1) (.int .i64 1)).run Tryd.prog w = .ok (.slice (some ⟨w.heap.size, 0, none⟩) 1 1) (w.alloc (.cells #[.int .u64 0] 93)) := by
  obtain ⟨i, hi, hz0, hz1, hz2⟩ := info_parts info93
  have := run_makeSlice w 128 93 i _ Tryd.underlying128 hi hz0 .i64 .i64 1 1 (by omega) (by omega) (by rw [hz1]; simp) (by rw [hz2]; omega) (by omega)
  rw [hz1] at this
  rw [this]
  show Result.ok _ (w.alloc (.cells (madeCells (Value.int IntKind.u64 0).cells 1) 93)) = _
  rw [show madeCells (Value.int IntKind.u64 0).cells 1 = #[.int .u64 0] from by kernel_rfl]
  rfl
def WdP (w : World) (e : Ending) (w' : World) : Prop := ∃ b, e = .returned (.slice (some ⟨b, 0, none⟩) 1 1) ∧ w.heap.size ≤ b ∧ w'.heap[b]? = some (.cells #[.int .u64 0] 93) ∧ Below w.heap.size w w'
set_option maxRecDepth 100000 in
set_option maxHeartbeats 1000000 in
theorem room_73 (w : World) (y : ByteArray) (tq : Option Addr) (nt tc : Nat) (sv : Value) (h1 : 1 ≤ nt) (h2 : nt ≤ 64) : Calls Tryd.prog 73 #[.agg #[.string y, .int .i64 0, .slice tq nt tc, sv]] w (WdP w) := by
  have hq : ((nt : Int) + 63).tdiv 64 = 1 := by
    have : ((nt : Int) + 63) = ((nt + 63 : Nat) : Int) := by omega
    rw [this, show (64 : Int) = ((64 : Nat) : Int) by rfl, ← Int.ofNat_tdiv, show (nt + 63) / 64 = 1 by omega]
    rfl
  obtain ⟨A, hA⟩ : ∃ A : Obj, A = .cells #[.string y, .int .i64 0, .slice tq nt tc, sv] 35 := ⟨_, rfl⟩
  have HX : Hid (WdP w (.returned (.slice (some ⟨w.heap.size + 1, 0, none⟩) 1 1)) ((w.alloc A).alloc (.cells #[.int .u64 0] 93))) := by
    have e : (w.alloc A).heap.size = w.heap.size + 1 := by simp
    refine ⟨_, rfl, by omega, ?_, (al_bel _ _).trans ((al_bel (w.alloc A) _).mono (by simp))⟩
    rw [← e, heap_alloc_last]
  rw [hA] at HX
  have hmk := mk_word
  generalize WdP w = G at HX ⊢
  clear hA
  go_enter Tryd.func73, Tryd.ntmps73
  go_wp2
  exact HX.out
def orV (x : Int) (p : Nat) : Int := bits BinOp.or IntKind.u64 x (IntKind.u64.wrap (2 ^ p))
def anV (x : Int) (p : Nat) : Int := bits BinOp.andNot IntKind.u64 x (IntKind.u64.wrap (2 ^ p))
def hasV (x : Int) (p : Nat) : Bool := bits BinOp.and IntKind.u64 (x / 2 ^ p) 1 == 1
def WsP (w : World) (b : Nat) (x : Int) (e : Ending) (w' : World) : Prop := e = .returned (.tuple #[]) ∧ w' = (w.setCell ⟨b, 0, none⟩ (.int .u64 x)).drew
set_option maxRecDepth 100000 in
set_option maxHeartbeats 1000000 in
theorem add_86 (w : World) (b p : Nat) (x : Int) (h1 : p < 64) (h : w.heap[b]? = some (.cells #[.int .u64 x] 93)) : Calls Tryd.prog 86 #[.slice (some ⟨b, 0, none⟩) 1 1, .int .i64 (p : Int)] w (WsP w b (orV x p)) := by
  have hq : (p : Int).tdiv 64 = 0 := by
    rw [show (64 : Int) = ((64 : Nat) : Int) by rfl, ← Int.ofNat_tdiv, show p / 64 = 0 by omega]
    rfl
  have hm : (p : Int).tmod 64 = (p : Int) := by
    rw [show (64 : Int) = ((64 : Nat) : Int) by rfl, ← Int.ofNat_tmod, show p % 64 = p by omega]
  have c0 : w.drew.cell? ⟨b, 0, none⟩ = some (.int .u64 x) := cell_at (i := 0) h rfl
  have f0 : w.drew.frozen? ⟨b, 0, none⟩ = false := row_free h 0
  have HX : Hid (WsP w b (orV x p) (.returned (.tuple #[])) (w.setCell ⟨b, 0, none⟩ (.int .u64 (bits BinOp.or IntKind.u64 x (IntKind.u64.wrap (2 ^ p))))).drew) := ⟨rfl, rfl⟩
  generalize WsP w b (orV x p) = G at HX ⊢
  clear h
  go_enter Tryd.func86, Tryd.ntmps86
  go_wp2_with fail
  go_region
  all_goals
    go_wp2
    go_end0
    exact HX.out
set_option maxRecDepth 100000 in
set_option maxHeartbeats 1000000 in
theorem drop_88 (w : World) (b p : Nat) (x : Int) (h1 : p < 64) (h : w.heap[b]? = some (.cells #[.int .u64 x] 93)) : Calls Tryd.prog 88 #[.slice (some ⟨b, 0, none⟩) 1 1, .int .i64 (p : Int)] w (WsP w b (anV x p)) := by
  have hq : (p : Int).tdiv 64 = 0 := by
    rw [show (64 : Int) = ((64 : Nat) : Int) by rfl, ← Int.ofNat_tdiv, show p / 64 = 0 by omega]
    rfl
  have hm : (p : Int).tmod 64 = (p : Int) := by
    rw [show (64 : Int) = ((64 : Nat) : Int) by rfl, ← Int.ofNat_tmod, show p % 64 = p by omega]
  have c0 : w.drew.cell? ⟨b, 0, none⟩ = some (.int .u64 x) := cell_at (i := 0) h rfl
  have f0 : w.drew.frozen? ⟨b, 0, none⟩ = false := row_free h 0
  have HX : Hid (WsP w b (anV x p) (.returned (.tuple #[])) (w.setCell ⟨b, 0, none⟩ (.int .u64 (bits BinOp.andNot IntKind.u64 x (IntKind.u64.wrap (2 ^ p))))).drew) := ⟨rfl, rfl⟩
  generalize WsP w b (anV x p) = G at HX ⊢
  clear h
  go_enter Tryd.func88, Tryd.ntmps88
  go_wp2_with fail
  go_region
  all_goals
    go_wp2
    go_end0
    exact HX.out
set_option maxRecDepth 100000 in
set_option maxHeartbeats 1000000 in
theorem has_103 (w : World) (b p : Nat) (x : Int) (h1 : p < 64) (c0 : w.cell? ⟨b, 0, none⟩ = some (.int .u64 x)) : Calls Tryd.prog 103 #[.slice (some ⟨b, 0, none⟩) 1 1, .int .i64 (p : Int)] w (fun e w' => e = .returned (.bool (hasV x p)) ∧ w' = w) := by
  have hq : (p : Int).tdiv 64 = 0 := by
    rw [show (64 : Int) = ((64 : Nat) : Int) by rfl, ← Int.ofNat_tdiv, show p / 64 = 0 by omega]
    rfl
  have hm : (p : Int).tmod 64 = (p : Int) := by
    rw [show (64 : Int) = ((64 : Nat) : Int) by rfl, ← Int.ofNat_tmod, show p % 64 = p by omega]
  have HX : Hid ((fun e w' => e = Ending.returned (.bool (hasV x p)) ∧ w' = w) (.returned (.bool (bits BinOp.and IntKind.u64 (x / 2 ^ p) 1 == 1))) w) := ⟨rfl, rfl⟩
  generalize (fun e w' => e = Ending.returned (.bool (hasV x p)) ∧ w' = w) = G at HX ⊢
  go_enter Tryd.func103, Tryd.ntmps103
  go_wp2
  exact HX.out
theorem or_0 (p : Nat) (h : p < 64) : orV 0 p = 2 ^ p := by
  have : ∀ p : Fin 64, orV 0 p.val = 2 ^ p.val := by decide +kernel
  exact this ⟨p, h⟩
theorem an_p (p : Nat) (h : p < 64) : anV (2 ^ p) p = 0 := by
  have : ∀ p : Fin 64, anV (2 ^ p.val) p.val = 0 := by decide +kernel
  exact this ⟨p, h⟩
theorem has_0 (p : Nat) (h : p < 64) : hasV 0 p = false := by
  have : ∀ p : Fin 64, hasV 0 p.val = false := by decide +kernel
  exact this ⟨p, h⟩
theorem has_p (r p : Nat) (hr : r < 64) (h : p < 64) : hasV (2 ^ r) p = decide (p = r) := by
  have : ∀ r p : Fin 64, hasV (2 ^ r.val) p.val = decide (p.val = r.val) := by decide +kernel
  exact this ⟨r, hr⟩ ⟨p, h⟩
end Go.Proofs.YtjmbjpimabnohaaDoor.Mid
