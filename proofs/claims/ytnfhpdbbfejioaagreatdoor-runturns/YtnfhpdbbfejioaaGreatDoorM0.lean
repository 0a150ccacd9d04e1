/- For RunTurns: what the lumps lack. -/
import Derived.Shelf.Strings.Builder1
import Derived.Shelf.Strings.Trim
import Derived.Shelf.Small.Utf8
import Derived.Shelf.Small.Strs
import Derived.Shelf.Strings.BuilderF
import Derived.Shelf.Strings.BuilderK
import Derived.Shelf.Strconv.Itoa0
import Derived.Shelf.Strconv.Itoa1
import Derived.Shelf.LaysM
import Derived.Shelf.Strconv.Itoa2
import Derived.Shelf.Strconv.Itoa3
import Derived.Shelf.Strconv.Itoa4
import Derived.Shelf.Strconv.ParseIntEmpty
import Derived.Shelf.Strconv.Clone
import Derived.Shelf.Strconv.SyntaxError
import Derived.Shelf.LaysC
import Derived.Shelf.Strconv.ToError
import Derived.Shelf.Strconv.Lower
import Derived.Shelf.Strconv.ParseUint10
import Derived.Shelf.Strconv.ParseUint10Empty
import Derived.Shelf.Strconv.ParseUint10Any
import Derived.Shelf.Strconv.ParseInt10
import Derived.Shelf.Strconv.RangeError
import Derived.Shelf.Strconv.ToErrorRange
import Derived.Shelf.Strconv.ParseUintEmpty
import Derived.Shelf.Strconv.ParseUint10b64
import Derived.Shelf.Strconv.ParseUint10b32
import Derived.Shelf.Strconv.ParseUint10b16
import Derived.Shelf.Strconv.ParseUint10b8
import Derived.Shelf.Strconv.ParseUint10At
import Derived.Shelf.Strconv.ParseInt10At64
import Derived.Shelf.Strconv.ParseInt10At32
import Derived.Shelf.Strconv.ParseInt10At16
import Derived.Shelf.Strconv.ParseInt10At8
import Derived.Shelf.Strconv.ParseInt10All
import Derived.Shelf.Strconv.ParseIntPublic10
import Derived.Shelf.Strconv.ErrVarParseInt
import Derived.Shelf.Strings.Search1
import Derived.Shelf.Strings.Search2
import Derived.Shelf.Strings.Search3
import Derived.Shelf.Strings.Cut
import Derived.Shelf.Strings.Shaped
import Derived.Shelf.Strings.Prefix
import Derived.Shelf.Unicode.Decode
import Derived.Shelf.Strings.Runes
import Derived.Shelf.Strings.AsciiSet
import Derived.Shelf.Unicode.DecodeSlow
import Derived.Shelf.Unicode.DecodeAny
import Derived.Shelf.Strings.BuilderCap
import Derived.Ground.Names2Prog
import Derived.Shelf.Slices.Clone
import Derived.Test.YtnfhpdbbfejioaaGreatDoorProg
import Derived.Test.YtnfhpdbbfejioaaGreatDoorL00
import Derived.Test.YtnfhpdbbfejioaaGreatDoorL15
import Derived.Test.YtnfhpdbbfejioaaGreatDoorL31
import Derived.Test.YtnfhpdbbfejioaaGreatDoorL28
import Derived.Test.YtnfhpdbbfejioaaGreatDoorL45
import Derived.Deep.Upon
namespace Go.Proofs
open Go.Shelf
def Tryz.lays144_ren : Go.Shelf.Ren := ⟨fun | 144 => 18 | 143 => 41 | 219 => 67 | 217 => 104 | 225 => 105 | 224 => 106 | 267 => 107 | 266 => 159 | 314 => 160 | n => n, fun | 9 => 9 | 4 => 4 | 3 => 3 | 5 => 5 | 46 => 56 | 146 => 261 | 51 => 260 | n => n, fun | 1 => 2 | n => n⟩
theorem Tryz.lays144 : Go.Proofs.Lays.n144 Tryz.prog Tryz.lays144_ren := {
  mixed := by kernel_rfl
  f143 := Tryz.func41.trans (congrArg some (by kernel_rfl))
  f144 := Tryz.func18.trans (congrArg some (by kernel_rfl))
  f217 := Tryz.func104.trans (congrArg some (by kernel_rfl))
  f219 := Tryz.func67.trans (congrArg some (by kernel_rfl))
  f224 := Tryz.func106.trans (congrArg some (by kernel_rfl))
  f225 := Tryz.func105.trans (congrArg some (by kernel_rfl))
  f266 := Tryz.func159.trans (congrArg some (by kernel_rfl))
  f267 := Tryz.func107.trans (congrArg some (by kernel_rfl))
  f314 := Tryz.func160.trans (congrArg some (by kernel_rfl))
  t3 := Tryz.underlying3
  a3 := Tryz.isAgg3
  z3 := Tryz.sizeOf3
  v3 := Tryz.zeroValue3
  t4 := Tryz.underlying4
  a4 := Tryz.isAgg4
  z4 := Tryz.sizeOf4
  v4 := Tryz.zeroValue4
  t5 := Tryz.underlying5
  a5 := Tryz.isAgg5
  z5 := Tryz.sizeOf5
  v5 := Tryz.zeroValue5
  t9 := Tryz.underlying9
  a9 := Tryz.isAgg9
  z9 := Tryz.sizeOf9
  v9 := Tryz.zeroValue9
  t46 := Tryz.underlying56
  a46 := Tryz.isAgg56
  z46 := Tryz.sizeOf56
  v46 := Tryz.zeroValue56
  t51 := Tryz.underlying260
  a51 := Tryz.isAgg260
  z51 := Tryz.sizeOf260
  v51 := Tryz.zeroValue260
  t146 := Tryz.underlying261
  a146 := Tryz.isAgg261
  z146 := Tryz.sizeOf261
  v146 := Tryz.zeroValue261
  g1 := by kernel_rfl }
open Go.RowKit Go.Lib in
/-- strings.Contains: "Contains reports whether substr is within s.": IT RETURNS 'Lib.contains s substr'; the world is as it was. (LAID: no walk: one application.) -/
theorem Tryz.strings_Contains (s sub : ByteArray) (m : Int) (w : World) (hs : s.size < 4294967281) (hm : w.cell? ⟨2, 0, none⟩ = some (.int .i64 m)) :
    Calls Tryz.prog 18 #[.string s, .string sub] w fun e w' => e = .returned (.bool (Lib.contains s.data.toList sub.data.toList)) ∧ w' = w := Any.strings_Contains Tryz.lays144 s sub m w hs hm
def Tryz.laysM144_ren : Go.Shelf.Ren := ⟨fun | 144 => 18 | 143 => 41 | 219 => 67 | 217 => 104 | 225 => 105 | 224 => 106 | 267 => 107 | 266 => 159 | 314 => 160 | n => n, fun | 9 => 9 | 4 => 4 | 3 => 3 | 5 => 5 | 46 => 56 | 146 => 261 | 51 => 260 | n => n, fun | 1 => 2 | n => n⟩
theorem Tryz.laysM144 : Go.Proofs.LaysM.n144 Tryz.prog Tryz.laysM144_ren := {
  mixed := by kernel_rfl
  f143 := Tryz.func41.trans (congrArg some (by kernel_rfl))
  f144 := Tryz.func18.trans (congrArg some (by kernel_rfl))
  f217 := Tryz.func104.trans (congrArg some (by kernel_rfl))
  f219 := Tryz.func67.trans (congrArg some (by kernel_rfl))
  f224 := Tryz.func106.trans (congrArg some (by kernel_rfl))
  f225 := Tryz.func105.trans (congrArg some (by kernel_rfl))
  f266 := Tryz.func159.trans (congrArg some (by kernel_rfl))
  f267 := Tryz.func107.trans (congrArg some (by kernel_rfl))
  f314 := Tryz.func160.trans (congrArg some (by kernel_rfl))
  t3 := Tryz.underlying3
  a3 := Tryz.isAgg3
  z3 := Tryz.sizeOf3
  v3 := Tryz.zeroValue3
  t4 := Tryz.underlying4
  a4 := Tryz.isAgg4
  z4 := Tryz.sizeOf4
  v4 := Tryz.zeroValue4
  t5 := Tryz.underlying5
  a5 := Tryz.isAgg5
  z5 := Tryz.sizeOf5
  v5 := Tryz.zeroValue5
  t9 := Tryz.underlying9
  a9 := Tryz.isAgg9
  z9 := Tryz.sizeOf9
  v9 := Tryz.zeroValue9
  t46 := Tryz.underlying56
  a46 := Tryz.isAgg56
  z46 := Tryz.sizeOf56
  v46 := Tryz.zeroValue56
  t51 := Tryz.underlying260
  a51 := Tryz.isAgg260
  z51 := Tryz.sizeOf260
  v51 := Tryz.zeroValue260
  t146 := Tryz.underlying261
  a146 := Tryz.isAgg261
  z146 := Tryz.sizeOf261
  v146 := Tryz.zeroValue261
  g1 := by kernel_rfl
  i3 := by kernel_rfl
  i4 := by kernel_rfl
  i5 := by kernel_rfl
  i9 := by kernel_rfl
  i46 := by kernel_rfl
  i51 := by kernel_rfl
  i146 := by kernel_rfl
  m1 := by kernel_rfl
  s1_3 := fun w h => Go.Proofs.cell_of_shapedOpen_int (zero := #[.int .i64 0]) (t := 3) h (of_decide_eq_true (by kernel_rfl)) (by kernel_rfl) rfl (by kernel_rfl) (by kernel_rfl) Tryz.underlying3 }
end Go.Proofs

namespace Go.Proofs.YtnfhpdbbfejioaaGreatDoor
set_option linter.unusedVariables false
set_option linter.unusedSimpArgs false
open Go Go.RowKit

theorem find_nodup : ∀ (L : List Fun), (L.map (·.nm)).Nodup → ∀ F ∈ L, L.find? (fun G => G.nm == F.nm) = some F
  | [], _, F, h => by simp at h
  | G :: L, hn, F, h => by
    rw [List.map_cons, List.nodup_cons] at hn
    rw [List.find?_cons]
    rcases List.mem_cons.1 h with rfl | h
    · simp
    · have : (G.nm == F.nm) = false := by
        simp only [beq_eq_false_iff_ne, ne_eq]
        exact fun e => hn.1 (List.mem_map.2 ⟨F, h, e.symm⟩)
      rw [this]
      exact find_nodup L hn.2 F h
theorem lk_perm {L M : List Fun} (h : L.Perm M) (hn : (L.map (·.nm)).Nodup) : lkL M = lkL L := by
  have hm : (M.map (·.nm)).Nodup := (h.map (·.nm)).nodup_iff.1 hn
  funext nm
  unfold lkL
  cases hL : L.find? (fun F => F.nm == nm) with
  | none =>
    have : M.find? (fun F => F.nm == nm) = none := by
      rw [List.find?_eq_none] at hL ⊢
      exact fun F hF => hL F (h.mem_iff.2 hF)
    rw [this]
  | some F =>
    have hF := List.mem_of_find?_eq_some hL
    have e : F.nm = nm := by simpa using List.find?_some hL
    have := find_nodup M hm F (h.mem_iff.1 hF)
    rw [e] at this
    rw [this]
/-- In any order nothing is found. -/
theorem chk_perm {L M : List Fun} (h : L.Perm M) (hc : chk L = .ok true) : chk M = .ok true := by
  unfold chk at hc ⊢
  obtain ⟨_, h1, hc⟩ := bx_ok hc
  obtain ⟨_, h2, hc⟩ := bx_ok hc
  obtain ⟨hn, _⟩ := (twice_ok L []).1 h1
  have hm : (M.map (·.nm)).Nodup := (h.map (·.nm)).nodup_iff.1 hn
  have t : twice [] M = .ok () := (twice_ok M []).2 ⟨hm, fun F _ => by simp⟩
  have hf : ckFs (lkL L) M = .ok () := (fs_ok _ M).2 fun F hF => (fs_ok _ L).1 h2 F (h.mem_iff.2 hF)
  rw [t, lk_perm h hn]
  show bx (ckFs (lkL L) M) _ = _
  rw [hf]
  exact hc
end Go.Proofs.YtnfhpdbbfejioaaGreatDoor

namespace Go.Proofs.YtnfhpdbbfejioaaGreatDoor
set_option linter.unusedVariables false
set_option linter.unusedSimpArgs false
open Go Go.RowKit

/-- In any order of its functions. -/
theorem run_perm {L M : List Fun} (h : L.Perm M) (hn : (L.map (·.nm)).Nodup) (g : Nat) (inp : List Int) (a : Nat) : rnV g M inp a = rnV g L inp a := by
  have e : (fun nm => M.find? (fun F => F.nm == nm)) = (fun nm => L.find? (fun F => F.nm == nm)) := by
    have hm : (M.map (·.nm)).Nodup := (h.map (·.nm)).nodup_iff.1 hn
    have one : ∀ (L : List Fun), (L.map (·.nm)).Nodup → ∀ F ∈ L, L.find? (fun G => G.nm == F.nm) = some F := by
      intro L
      induction L with
      | nil => intro _ F hF; simp at hF
      | cons G L ih =>
        intro hn F hF
        rw [List.map_cons, List.nodup_cons] at hn
        rw [List.find?_cons]
        rcases List.mem_cons.1 hF with rfl | hF
        · simp
        · have : (G.nm == F.nm) = false := by
            simp only [beq_eq_false_iff_ne, ne_eq]
            exact fun e => hn.1 (List.mem_map.2 ⟨F, hF, e.symm⟩)
          rw [this]
          exact ih hn.2 F hF
    funext nm
    cases hL : L.find? (fun F => F.nm == nm) with
    | none =>
      rw [List.find?_eq_none] at hL ⊢
      exact fun F hF => hL F (h.mem_iff.2 hF)
    | some F =>
      have hF := List.mem_of_find?_eq_some hL
      have e : F.nm = nm := by simpa using List.find?_some hL
      have := one M hm F (h.mem_iff.1 hF)
      rw [e] at this
      exact this
  unfold rnV
  rw [e]
end Go.Proofs.YtnfhpdbbfejioaaGreatDoor

namespace Go.Proofs.YtnfhpdbbfejioaaGreatDoor
set_option linter.unusedVariables false
set_option linter.unusedSimpArgs false
open Go Go.RowKit

abbrev inB : By := [105, 110, 112, 117, 116]
/-- It asks for nothing. -/
def NoI : Tr → Prop
  | .agg [.lit (.int _ c), .lit (.int _ _), .lit (.int _ _), .lit (.string _), .lit (.string _), l, r, g] => c ≠ 9 ∧ NoI l ∧ NoI r ∧ NoI g
  | .agg [.lit (.int _ _), .lit (.int _ _), .lit (.string _), ix, v, th, el] => NoI ix ∧ NoI v ∧ NoI th ∧ NoI el
  | .agg [.lit (.string _), .lit (.int _ _), _, b] => NoI b
  | .slice [x] [g] => NoI x ∧ NoI g
  | _ => True
theorem no_nd {c a n : Int} {nm op : By} {l r g : Tr} : NoI (nd c a n nm op l r g) ↔ c ≠ 9 ∧ NoI l ∧ NoI r ∧ NoI g := by rw [NoI]
theorem no_st {c a : Int} {nm : By} {ix v th el : Tr} : NoI (st c a nm ix v th el) ↔ NoI ix ∧ NoI v ∧ NoI th ∧ NoI el := by rw [NoI]
theorem no_fn {nm : By} {a : Int} {ps b : Tr} : NoI (fnc nm a ps b) ↔ NoI b := by rw [NoI]
theorem no_cc {x g : Tr} : NoI (cc x g) ↔ NoI x ∧ NoI g := by rw [NoI]
theorem no_ce : NoI ce := by simp [NoI]
theorem no_nil : NoI .nil := by simp [NoI]

/-! ### What is given doesn't matter -/
def Sg.giv (s : Sg) (i : List Int) : Sg := { s with inp := i }
def Ni {α : Type} (x : Go1 α) : Prop := ∀ s i, (∃ a s1, x s = .ok (a, s1) ∧ x (s.giv i) = .ok (a, s1.giv i)) ∨ (∃ e, x s = .error e ∧ x (s.giv i) = .error e)
theorem ni_gp {α : Type} (a : α) : Ni (gp a) := fun s i => .inl ⟨a, s, rfl, rfl⟩
theorem ni_gt {α : Type} (w : Int) : Ni (gt (α := α) w) := fun s i => .inr ⟨_, rfl, rfl⟩
theorem ni_gb {α β : Type} {x : Go1 α} {f : α → Go1 β} (hx : Ni x) (hf : ∀ a, Ni (f a)) : Ni (gb x f) := fun s i => by
  unfold gb
  rcases hx s i with ⟨a, s1, h1, h2⟩ | ⟨e, h1, h2⟩
  · rw [h1, h2]
    exact hf a s1 i
  · rw [h1, h2]
    exact .inr ⟨e, rfl, rfl⟩
theorem ni_if {α : Type} {c : Prop} [Decidable c] {x y : Go1 α} (hx : Ni x) (hy : Ni y) : Ni (if c then x else y) := by
  split
  · exact hx
  · exact hy
theorem ni_pay : Ni pay := fun s i => by
  by_cases h : s.fuel = 0
  · exact .inr ⟨_, if_pos h, if_pos h⟩
  · exact .inl ⟨_, _, if_neg h, if_neg h⟩
theorem ni_tell (n : Int) : Ni (tellG n) := fun s i => by
  by_cases h : 200 ≤ s.out.length
  · exact .inr ⟨_, if_pos h, if_pos h⟩
  · exact .inl ⟨_, _, if_neg h, if_neg h⟩
theorem ni_new (n : Int) : Ni (newG n) := fun s i => by
  by_cases h : n < 0 ∨ 40 < n
  · exact .inr ⟨_, if_pos h, if_pos h⟩
  · exact .inl ⟨_, _, if_neg h, if_neg h⟩
theorem arr_giv (s : Sg) (i : List Int) (q : Option Nat) : arrOf (s.giv i) q = arrOf s q := by cases q <;> rfl
theorem ni_len (q : Option Nat) : Ni (lenG q) := fun s i => .inl ⟨_, s, rfl, (by unfold lenG; rw [arr_giv])⟩
theorem ni_item (q : Option Nat) (j : Int) : Ni (itemG q j) := fun s i => by
  by_cases h : j < 0 ∨ ((arrOf s q).length : Int) ≤ j
  · exact .inr ⟨_, if_pos h, by unfold itemG; rw [arr_giv]; exact if_pos h⟩
  · exact .inl ⟨_, s, if_neg h, by unfold itemG; rw [arr_giv]; exact if_neg h⟩
theorem ni_put (q : Option Nat) (j n : Int) : Ni (putG q j n) := fun s i => by
  by_cases h : j < 0 ∨ ((arrOf s q).length : Int) ≤ j
  · exact .inr ⟨_, if_pos h, by unfold putG; rw [arr_giv]; exact if_pos h⟩
  · exact .inl ⟨_, _, if_neg h, by unfold putG; rw [arr_giv]; exact if_neg h⟩
theorem ni_both (op : By) (a b : Int) : Ni (bothG op a b) := by
  unfold bothG
  repeat' first | exact ni_gp _ | exact ni_gt _ | refine ni_if ?_ ?_
theorem ni_all (fs : By → Option Fun) (hfs : ∀ nm F, fs nm = some F → NoI F.body) : ∀ (g : Nat), (∀ d o t, NoI t → Ni (evE fs g d o t)) ∧ (∀ d o t, NoI t → Ni (evA fs g d o t)) ∧ (∀ d o t, NoI t → Ni (evB fs g d o t)) ∧ (∀ d o t, NoI t → Ni (evS fs g d o t)) ∧ (∀ d o v t, NoI v → NoI t → Ni (evW fs g d o v t))
  | 0 => ⟨fun _ _ _ _ => by rw [evE_0]; exact ni_gt _, fun _ _ _ _ => by rw [evA_0]; exact ni_gt _, fun _ _ _ _ => by rw [evB_0]; exact ni_gt _, fun _ _ _ _ => by rw [evS_0]; exact ni_gt _, fun _ _ _ _ _ _ => by rw [evW_0]; exact ni_gt _⟩
  | g + 1 => by
    obtain ⟨iE, iA, iB, iS, iW⟩ := ni_all fs hfs g
    refine ⟨fun d o t h => ?_, fun d o t h => ?_, fun d o t h => ?_, fun d o t h => ?_, fun d o v t hv h => ?_⟩
    · rw [evE_1]
      split
      · rename_i nm _ _ _ _
        rw [NoI] at h
        obtain ⟨h9, hl, hr, hg⟩ := h
        cases hf : fs nm with
        | none =>
          simp only [if_neg h9]
          repeat' first | exact ni_gp _ | exact ni_gt _ | exact iE _ _ _ hl | exact iE _ _ _ hr | exact ni_new _ | exact ni_len _ | exact ni_item _ _ | exact ni_both _ _ _ | refine ni_if ?_ ?_ | (refine ni_gb ?_ fun _ => ?_)
        | some F =>
          have hb := hfs nm F hf
          simp only [if_neg h9]
          repeat' first | exact ni_gp _ | exact ni_gt _ | exact iE _ _ _ hl | exact iE _ _ _ hr | exact iA _ _ _ hg | exact iB _ _ _ hb | exact ni_new _ | exact ni_len _ | exact ni_item _ _ | exact ni_both _ _ _ | refine ni_if ?_ ?_ | (refine ni_gb ?_ fun _ => ?_)
      · exact ni_gt _
    · rw [evA_1]
      split
      · rw [NoI] at h
        exact ni_gb (iE _ _ _ h.1) fun _ => ni_gb (iA _ _ _ h.2) fun _ => ni_gp _
      · exact ni_gp _
    · rw [evB_1]
      split
      · rw [NoI] at h
        exact ni_gb ni_pay fun _ => ni_gb (iS _ _ _ h.1) fun _ => ni_if (ni_gp _) (iB _ _ _ h.2)
      · exact ni_gp _
    · rw [evS_1]
      split
      · rw [NoI] at h
        obtain ⟨h1, h2, h3, h4⟩ := h
        repeat' first | exact ni_gp _ | exact ni_gt _ | exact iE _ _ _ h1 | exact iE _ _ _ h2 | exact iW _ _ _ _ h2 h3 | exact iB _ _ _ h3 | exact iB _ _ _ h4 | exact ni_put _ _ _ | exact ni_tell _ | refine ni_if ?_ ?_ | (refine ni_gb ?_ fun _ => ?_)
      · exact ni_gt _
    · rw [evW_1]
      exact ni_gb (iE _ _ _ hv) fun _ => ni_if (ni_gp _) (ni_gb (iB _ _ _ h) fun _ => ni_if (ni_gp _) (ni_gb ni_pay fun _ => iW _ _ _ _ hv h))
theorem run_deaf (g : Nat) (L : List Fun) (hL : ∀ F ∈ L, NoI F.body) (inp inp' : List Int) (a : Nat) : rnV g L inp' a = rnV g L inp a := by
  have h := (ni_all (fun nm => L.find? (fun F => F.nm == nm)) (fun nm F hf => hL F (List.mem_of_find?_eq_some hf)) g).1 0 [] (nd 5 0 0 [109, 97, 105, 110] [] .nil .nil ce) (no_nd.2 ⟨by decide, no_nil, no_nil, no_ce⟩) ⟨a, inp, [], []⟩ inp'
  have e : (⟨a, inp, [], []⟩ : Sg).giv inp' = ⟨a, inp', [], []⟩ := rfl
  rw [e] at h
  unfold rnV
  rcases h with ⟨v, s1, h1, h2⟩ | ⟨x, h1, h2⟩
  · rw [h1, h2]; rfl
  · rw [h1, h2]

/-! ### Of tokens without input no tree asks -/
def Nt (l : List Tok) : Prop := ∀ x ∈ l, x.t ≠ inB
theorem Nt.tail {l : List Tok} (h : Nt l) : Nt l.tail := fun x hx => h x (List.mem_of_mem_tail hx)
theorem Nt.hd {l : List Tok} (h : Nt l) : (hd l).t ≠ inB := by
  cases l with
  | nil => intro e; cases e
  | cons x l => exact h x (by simp)
def Pt {α : Type} (P : α → Prop) (x : R α) : Prop := ∀ t c, x = .ok (t, c) → P t ∧ Nt c
theorem pt_b {α β : Type} {P : α → Prop} {Q : β → Prop} {x : R α} {f : α → List Tok → R β} (hx : Pt P x) (hf : ∀ t c, P t → Nt c → Pt Q (f t c)) : Pt Q (bnd x f) := fun t c h => by
  obtain ⟨a, l, e1, e2⟩ := bnd_ok h
  obtain ⟨h1, h2⟩ := hx a l e1
  exact hf a l h1 h2 t c e2
theorem pt_ok {α : Type} {P : α → Prop} {t : α} {c : List Tok} (h1 : P t) (h2 : Nt c) : Pt P (.ok (t, c)) := fun t' c' h => by
  injection h with h
  injection h with e1 e2
  subst e1
  subst e2
  exact ⟨h1, h2⟩
theorem pt_err {α : Type} {P : α → Prop} (e : Int × Nat) : Pt P (.error e : R α) := fun t c h => (by cases h)
theorem pt_if {α : Type} {P : α → Prop} {c : Prop} [Decidable c] {x y : R α} (hx : c → Pt P x) (hy : ¬ c → Pt P y) : Pt P (if c then x else y) := by
  split
  · rename_i h; exact hx h
  · rename_i h; exact hy h
theorem pt_need {x : By} {l : List Tok} (h : Nt l) : Pt (fun _ => True) (needV x l) := by
  unfold needV
  exact pt_if (fun _ => pt_ok trivial h.tail) (fun _ => pt_err _)
theorem pt_name {l : List Tok} (h : Nt l) : Pt (fun _ => True) (nameVv l) := by
  unfold nameVv
  exact pt_if (fun _ => pt_err _) (fun _ => pt_if (fun _ => pt_err _) (fun _ => pt_ok trivial h.tail))
theorem pt_num {l : List Tok} (h : Nt l) : Pt (fun _ => True) (numVv l) := by
  unfold numVv
  split
  · exact pt_ok trivial h.tail
  · exact pt_err _
theorem pt_bound {d : Nat} {l : List Tok} (h : Nt l) : Pt (fun _ => True) (boundV d l) := by
  unfold boundV
  exact pt_if (fun _ => pt_err _) (fun _ => pt_ok trivial h)
theorem no_leaf {c a n : Int} {nm op : By} (h : c ≠ 9) : NoI (nd c a n nm op .nil .nil ce) := no_nd.2 ⟨h, no_nil, no_nil, no_ce⟩
theorem pt_ex : ∀ (f g lv d : Nat) (x : Tr) (p : Nat) (l : List Tok), NoI x → Nt l → Pt NoI (exV f g lv d x p l)
  | 0, _, _, _, _, _, _, _, _ => by rw [exV]; exact pt_err _
  | f + 1, 0, lv, d, x, p, l, hx, h => by
    rw [exV]
    exact pt_if (fun _ => pt_ex f 2 0 d .nil 0 l no_nil h) (fun _ => pt_b (pt_ex f 0 _ d .nil 0 l no_nil h) fun y l1 hy h1 => pt_ex f 1 lv d y _ l1 hy h1)
  | f + 1, 1, lv, d, x, p, l, hx, h => by
    rw [exV]
    exact pt_if (fun _ => pt_b (pt_ex f 0 _ d .nil 0 _ no_nil h.tail) fun y l1 hy h1 => pt_ex f 1 lv d _ p l1 (no_nd.2 ⟨by decide, hx, hy, no_ce⟩) h1) (fun _ => pt_ok hx h)
  | f + 1, 2, lv, d, x, p, l, hx, h => by
    rw [exV]
    refine pt_b (pt_bound h) fun _ _ _ _ => pt_if (fun _ => pt_b (pt_ex f 2 0 _ .nil 0 _ no_nil h.tail) fun y l1 hy h1 => pt_ok (no_nd.2 ⟨by decide, hy, no_nil, no_ce⟩) h1) (fun _ => pt_b (pt_ex f 4 0 d .nil 0 l no_nil h) fun y l1 hy h1 => pt_ex f 3 0 d y _ l1 hy h1)
  | f + 1, 3, lv, d, x, p, l, hx, h => by
    rw [exV]
    exact pt_if (fun _ => pt_b (pt_ex f 6 0 d .nil 0 _ no_nil h.tail) fun y l1 hy h1 => pt_ex f 3 0 d _ p l1 (no_nd.2 ⟨by decide, hx, hy, no_ce⟩) h1) (fun _ => pt_ok hx h)
  | f + 1, 4, lv, d, x, p, l, hx, h => by
    rw [exV]
    refine pt_if (fun _ => pt_b (pt_num h) fun v l1 _ h1 => pt_ok (no_leaf (by decide)) h1) fun _ => ?_
    refine pt_if (fun _ => pt_b (pt_name h) fun nm l1 _ h1 => pt_if (fun _ => pt_if (fun _ => pt_ok (no_leaf (by decide)) h1.tail.tail) (fun _ => pt_b (pt_ex f 7 0 d ce 0 _ no_ce h1.tail) fun g l2 hg h2 => pt_ok (no_nd.2 ⟨by decide, no_nil, no_nil, hg⟩) h2)) (fun _ => pt_ok (no_leaf (by decide)) h1)) fun _ => ?_
    refine pt_if (fun _ => pt_b (pt_ex f 5 0 d .nil 0 _ no_nil h.tail) fun y l1 hy h1 => pt_ok (no_nd.2 ⟨by decide, hy, no_nil, no_ce⟩) h1) fun _ => ?_
    refine pt_if (fun _ => pt_b (pt_ex f 5 0 d .nil 0 _ no_nil h.tail) fun y l1 hy h1 => pt_ok (no_nd.2 ⟨by decide, hy, no_nil, no_ce⟩) h1) fun _ => ?_
    exact pt_if (fun e => absurd e h.hd) fun _ => pt_ex f 5 0 d .nil 0 l no_nil h
  | f + 1, 5, lv, d, x, p, l, hx, h => by
    rw [exV]
    exact pt_b (pt_need h) fun _ l1 _ h1 => pt_b (pt_ex f 0 1 _ .nil 0 l1 no_nil h1) fun y l2 hy h2 => pt_b (pt_need h2) fun _ l3 _ h3 => pt_ok hy h3
  | f + 1, 6, lv, d, x, p, l, hx, h => by
    rw [exV]
    exact pt_b (pt_ex f 0 1 _ .nil 0 l no_nil h) fun y l2 hy h2 => pt_b (pt_need h2) fun _ l3 _ h3 => pt_ok hy h3
  | f + 1, 7, lv, d, x, p, l, hx, h => by
    rw [exV]
    exact pt_b (pt_ex f 0 1 _ .nil 0 l no_nil h) fun y l1 hy h1 => pt_if (fun _ => pt_b (pt_ex f 7 0 d ce 0 _ no_ce h1.tail) fun g l2 hg h2 => pt_ok (no_cc.2 ⟨hy, hg⟩) h2) (fun _ => pt_b (pt_need h1) fun _ l2 _ h2 => pt_ok (no_cc.2 ⟨hy, no_ce⟩) h2)
  | f + 1, g + 8, lv, d, x, p, l, hx, h => by rw [exV]; exact pt_err _
theorem pt_expr {l : List Tok} (h : Nt l) : Pt NoI (exprV l) := pt_ex _ _ _ _ _ _ _ no_nil h
theorem pt_held {l : List Tok} (h : Nt l) : Pt NoI (heldV l) := pt_ex _ _ _ _ _ _ _ no_nil h
theorem pt_idx {l : List Tok} (h : Nt l) : Pt NoI (idxV l) := pt_ex _ _ _ _ _ _ _ no_nil h
theorem pt_args {l : List Tok} (h : Nt l) : Pt NoI (argsV l) := by
  unfold argsV argV
  exact pt_if (fun _ => pt_ok no_ce h.tail) (fun _ => pt_ex _ _ _ _ _ _ _ no_ce h)
theorem no_st1 {c a : Int} {nm : By} {v : Tr} (h : NoI v) : NoI (st c a nm .nil v ce ce) := no_st.2 ⟨no_nil, h, no_ce, no_ce⟩
theorem pt_named {a : Nat} {l : List Tok} (h : Nt l) : Pt NoI (namedV a l) := by
  unfold namedV
  refine pt_b (pt_name h) fun nm l1 _ h1 => pt_if (fun _ => pt_b (pt_args h1.tail) fun g l2 hg h2 => pt_ok (no_st1 (no_nd.2 ⟨by decide, no_nil, no_nil, hg⟩)) h2) fun _ => ?_
  refine pt_if (fun _ => pt_b (pt_idx h1.tail) fun i l2 hi h2 => pt_b (pt_need h2) fun _ l3 _ h3 => pt_b (pt_expr h3) fun v l4 hv h4 => pt_ok (no_st.2 ⟨hi, hv, no_ce, no_ce⟩) h4) fun _ => ?_
  exact pt_b (pt_need h1) fun _ l3 _ h3 => pt_b (pt_expr h3) fun v l4 hv h4 => pt_ok (no_st1 hv) h4
theorem pt_st : ∀ (f g d : Nat) (l : List Tok), Nt l → Pt NoI (stV f g d l)
  | 0, _, _, _, _ => by rw [stV]; exact pt_err _
  | f + 1, 0, d, l, h => by
    rw [stV]
    exact pt_b (pt_bound h) fun _ _ _ _ => pt_b (pt_need h) fun _ l1 _ h1 => pt_st f 1 d l1 h1
  | f + 1, 1, d, l, h => by
    rw [stV]
    exact pt_if (fun _ => pt_ok no_ce h.tail) (fun _ => pt_b (pt_st f 2 _ l h) fun t l1 ht h1 => pt_b (pt_st f 1 d l1 h1) fun g l2 hg h2 => pt_ok (no_cc.2 ⟨ht, hg⟩) h2)
  | f + 1, 2, d, l, h => by
    rw [stV]
    refine pt_if (fun _ => pt_b (pt_named h) fun t l1 ht h1 => pt_b (pt_need h1) fun _ l2 _ h2 => pt_ok ht h2) fun _ => ?_
    refine pt_if (fun _ => pt_b (pt_name h.tail) fun nm l1 _ h1 => pt_b (pt_need h1) fun _ l2 _ h2 => pt_b (pt_expr h2) fun v l3 hv h3 => pt_b (pt_need h3) fun _ l4 _ h4 => pt_ok (no_st1 hv) h4) fun _ => ?_
    refine pt_if (fun _ => pt_b (pt_expr h.tail) fun v l3 hv h3 => pt_b (pt_need h3) fun _ l4 _ h4 => pt_ok (no_st1 hv) h4) fun _ => ?_
    refine pt_if (fun _ => pt_b (pt_expr h.tail) fun v l3 hv h3 => pt_b (pt_need h3) fun _ l4 _ h4 => pt_ok (no_st1 hv) h4) fun _ => ?_
    refine pt_if (fun _ => pt_b (pt_held h.tail) fun v l1 hv h1 => pt_b (pt_st f 0 d l1 h1) fun th l2 ht h2 => pt_if (fun _ => pt_b (pt_st f 0 d _ h2.tail) fun el l3 he h3 => pt_ok (no_st.2 ⟨no_nil, hv, ht, he⟩) h3) (fun _ => pt_ok (no_st.2 ⟨no_nil, hv, ht, no_ce⟩) h2)) fun _ => ?_
    exact pt_if (fun _ => pt_b (pt_held h.tail) fun v l1 hv h1 => pt_b (pt_st f 0 d l1 h1) fun th l2 ht h2 => pt_ok (no_st.2 ⟨no_nil, hv, ht, no_ce⟩) h2) fun _ => pt_err _
  | f + 1, g + 3, d, l, h => by rw [stV]; exact pt_err _
theorem pt_par {l : List Tok} (h : Nt l) : Pt (fun _ => True) (parV l) := by
  unfold parV
  exact pt_b (pt_name h) fun nm l1 _ h1 => pt_b (pt_need h1) fun _ l2 _ h2 => pt_if (fun _ => pt_ok trivial h2.tail) (fun _ => pt_b (pt_need h2) fun _ l3 _ h3 => pt_ok trivial h3)
theorem pt_parl : ∀ (f : Nat) (l : List Tok), Nt l → Pt (fun _ => True) (parlV f l)
  | 0, _, _ => by rw [parlV]; exact pt_err _
  | f + 1, l, h => by
    rw [parlV]
    exact pt_b (pt_par h) fun x l1 _ h1 => pt_if (fun _ => pt_b (pt_parl f _ h1.tail) fun g l2 _ h2 => pt_ok trivial h2) (fun _ => pt_b (pt_need h1) fun _ l2 _ h2 => pt_ok trivial h2)
theorem pt_pars {l : List Tok} (h : Nt l) : Pt (fun _ => True) (parsV l) := by
  unfold parsV
  exact pt_if (fun _ => pt_ok trivial h.tail) (fun _ => pt_parl _ _ h)
theorem pt_fn {l : List Tok} (h : Nt l) : Pt NoI (fnV l) := by
  unfold fnV
  exact pt_b (pt_need h) fun _ l1 _ h1 => pt_b (pt_name h1) fun nm l2 _ h2 => pt_b (pt_need h2) fun _ l3 _ h3 => pt_b (pt_pars h3) fun ps l4 _ h4 => pt_b (pt_st _ _ _ _ h4) fun b l5 hb h5 => pt_ok (no_fn.2 hb) h5
theorem pt_prog : ∀ (f n : Nat) (l : List Tok), Nt l → Pt NoI (progV f n l)
  | 0, _, _, _ => by rw [progV]; exact pt_err _
  | f + 1, n, l, h => by
    rw [progV]
    exact pt_if (fun _ => pt_ok no_ce h) (fun _ => pt_if (fun _ => pt_err _) (fun _ => pt_b (pt_fn h) fun x l1 hx h1 => pt_b (pt_prog f _ l1 h1) fun g l2 hg h2 => pt_ok (no_cc.2 ⟨hx, hg⟩) h2))

/-! ### Tokens are parts of the text -/
theorem one_pre {rest : By} {k : Nat} {t : By} (h : oneTok rest = some (k, t)) : t <+: rest := by
  unfold oneTok at h
  split at h
  · injection h with h
    injection h with _ h
    subst h
    exact List.takeWhile_prefix _
  · split at h
    · injection h with h
      injection h with _ h
      subst h
      exact List.takeWhile_prefix _
    · obtain ⟨m, hm, he⟩ := Option.map_eq_some_iff.1 h
      injection he with _ he
      subst he
      have h1 := List.find?_some hm
      exact List.isPrefixOf_iff_prefix.1 h1
theorem skip_suf (b : Bool) (s : By) : skipS b s <:+ s := by rw [skip_drop]; exact List.drop_suffix _ _
theorem cut_in (s : By) (n : Nat) : ∀ (f : Nat) (rest : By) (l r : List Tok), rest <:+ s → (∀ x ∈ l, x.t <:+: s) → cutV n f rest l = .ok r → ∀ x ∈ r, x.t <:+: s
  | 0, rest, l, r, _, hl, h => by
    rw [cutV] at h
    injection h with h
    subst h
    exact hl
  | f + 1, rest, l, r, hs, hl, h => by
    rw [cutV] at h
    split at h
    · injection h with h
      subst h
      intro x hx
      rcases List.mem_append.1 hx with hx | hx
      · exact hl x hx
      · rw [List.mem_singleton] at hx
        subst hx
        exact List.nil_infix
    · split at h
      · cases h
      · rename_i k t ho
        split at h
        · cases h
        · refine cut_in s n f _ _ r ((skip_suf _ _).trans ((List.drop_suffix _ _).trans hs)) (fun x hx => ?_) h
          rcases List.mem_append.1 hx with hx | hx
          · exact hl x hx
          · rw [List.mem_singleton] at hx
            subst hx
            exact (one_pre ho).isInfix.trans hs.isInfix
/-- A program whose text has no 'input' in it goes as it goes, whatever is given. -/
theorem run_deaf_text {s : By} {L : List Fun} (h : parseV s = .ok (chain (L.map Fun.tr))) (hn : ¬ inB <:+: s) (g : Nat) (inp inp' : List Int) (a : Nat) : rnV g L inp' a = rnV g L inp a := by
  obtain ⟨l, c, t1, p1⟩ := parse_parts h
  have hl : Nt l := fun x hx e => hn (by
    have := cut_in s s.length _ _ [] l (skip_suf false s) (fun x hx => by simp at hx) t1 x hx
    rw [e] at this
    exact this)
  obtain ⟨hp, _⟩ := pt_prog _ 0 l hl _ _ p1
  refine run_deaf g L ?_ inp inp' a
  clear h t1 p1 hl hn
  induction L with
  | nil => intro F hF; simp at hF
  | cons G L ih =>
    have hp' : NoI (cc G.tr (chain (L.map Fun.tr))) := hp
    obtain ⟨h1, h2⟩ := no_cc.1 hp'
    intro F hF
    rcases List.mem_cons.1 hF with rfl | hF
    · have : NoI (.agg [.lit (.string F.nm), .lit (.int F.kd F.at'), psT F.ps, F.body]) := h1
      rw [NoI] at this
      exact this
    · exact ih h2 F hF
end Go.Proofs.YtnfhpdbbfejioaaGreatDoor

namespace Go.Proofs.YtnfhpdbbfejioaaGreatDoor
set_option linter.unusedVariables false
set_option linter.unusedSimpArgs false
open Go Go.RowKit

/-- A function and where its parameters and its body lie. -/
abbrev Zf := Fun × Value × Value
def zC (zs : List Zf) : List Value := zs.flatMap fun z => [str z.1.nm, .int .i64 z.1.at', z.2.1, z.2.2]
theorem zC_app (a b : List Zf) : zC (a ++ b) = zC a ++ zC b := by simp [zC]
theorem zC_len : ∀ zs : List Zf, (zC zs).length = zs.length * 4
  | [] => rfl
  | z :: zs => by
    have := zC_len zs
    simp [zC] at this ⊢
    omega
theorem zC_at : ∀ (zs : List Zf) (i : Nat) (z : Zf), zs[i]? = some z → (zC zs)[i * 4]? = some (str z.1.nm) ∧ (zC zs)[i * 4 + 1]? = some (.int .i64 z.1.at') ∧ (zC zs)[i * 4 + 2]? = some z.2.1 ∧ (zC zs)[i * 4 + 3]? = some z.2.2
  | [], i, z, h => by simp at h
  | y :: zs, 0, z, h => by
    simp at h
    subst h
    exact ⟨rfl, rfl, rfl, rfl⟩
  | y :: zs, i + 1, z, h => by
    obtain ⟨a, b, c, d⟩ := zC_at zs i z (by simpa using h)
    have e : zC (y :: zs) = [str y.1.nm, .int .i64 y.1.at', y.2.1, y.2.2] ++ zC zs := rfl
    rw [e, show (i + 1) * 4 = i * 4 + 4 by omega]
    refine ⟨?_, ?_, ?_, ?_⟩
    · rw [List.getElem?_append_right (by simp)]; simpa using a
    · rw [List.getElem?_append_right (by simp <;> omega)]; simpa [show i * 4 + 4 + 1 - 4 = i * 4 + 1 by omega] using b
    · rw [List.getElem?_append_right (by simp <;> omega)]; simpa [show i * 4 + 4 + 2 - 4 = i * 4 + 2 by omega] using c
    · rw [List.getElem?_append_right (by simp <;> omega)]; simpa [show i * 4 + 4 + 3 - 4 = i * 4 + 3 by omega] using d
theorem zC_drop (zs : List Zf) (k : Nat) (h : k ≤ zs.length) : (zC zs).drop (k * 4) = zC (zs.drop k) ∧ (zC zs).take (k * 4) = zC (zs.take k) := by
  have e : zC zs = zC (zs.take k) ++ zC (zs.drop k) := by rw [← zC_app, List.take_append_drop]
  have l : (zC (zs.take k)).length = k * 4 := by rw [zC_len, List.length_take, Nat.min_eq_left h]
  rw [e, ← l, List.drop_left, List.take_left]
  exact ⟨rfl, rfl⟩
def Zok (S : Nat → Prop) (w : World) (z : Zf) : Prop := ∃ nb bcs, RowS S w 144 2 z.2.1 z.1.ps.length (psC z.1.ps) ∧ RowS S w 147 7 z.2.2 nb bcs ∧ StAt S w z.1.body bcs
theorem Zok.kept {S : Nat → Prop} {w w' : World} {z : Zf} (h : Zok S w z) (hk : Keeps S w w') : Zok S w' z := by
  obtain ⟨nb, bcs, a, b, c⟩ := h
  exact ⟨nb, bcs, a.kept hk (by decide), b.kept hk (by decide), StAt.kept hk _ _ c⟩
theorem Zok.mono {S S' : Nat → Prop} {w : World} {z : Zf} (h : Zok S w z) (hm : ∀ b, S b → b < w.heap.size → S' b) : Zok S' w z := by
  obtain ⟨nb, bcs, a, b, c⟩ := h
  exact ⟨nb, bcs, a.mono hm, b.mono hm, StAt.mono hm _ _ c⟩
theorem fn_z {S : Nat → Prop} {w : World} : ∀ (L : List Fun) (cs : List Value), FnAt S w (chain (L.map Fun.tr)) cs → ∃ zs : List Zf, zs.map (·.1) = L ∧ cs = zC zs ∧ ∀ z ∈ zs, Zok S w z
  | [], cs, h => by
    have h' : FnAt S w (.slice [] []) cs := h
    rw [FnAt] at h'
    exact ⟨[], rfl, h', fun z hz => by simp at hz⟩
  | F :: L, cs, h => by
    have h' : FnAt S w (.slice [.agg [.lit (.string F.nm), .lit (.int F.kd F.at'), psT F.ps, F.body]] [chain (L.map Fun.tr)]) cs := h
    rw [FnAt] at h'
    obtain ⟨vp, vb, nb, xs, bcs, rest, e, a1, a2, a3, a4, a5⟩ := h'
    obtain ⟨zs, e1, e2, e3⟩ := fn_z L rest a5
    have := psT_inj a1
    subst this
    refine ⟨(F, vp, vb) :: zs, by simp [e1], ?_, fun z hz => ?_⟩
    · rw [e, e2]
      rfl
    · rcases List.mem_cons.1 hz with rfl | hz
      · exact ⟨nb, bcs, a2, a3, a4⟩
      · exact e3 z hz
/-- Rows of functions, in whatever order, are a program's functions. -/
theorem li_z {S : Nat → Prop} {w : World} {v : Value} {zs : List Zf} (hr : RowS S w 86 4 v zs.length (zC zs)) (h : ∀ z ∈ zs, Zok S w z) : LiS S w v (zs.map (·.1)) := by
  refine ⟨zC zs, by rw [List.length_map]; exact hr, fun i f hf => ?_⟩
  rw [List.getElem?_map] at hf
  obtain ⟨z, hz, rfl⟩ := Option.map_eq_some_iff.1 hf
  obtain ⟨nb, bcs, a, b, c⟩ := h z (List.mem_of_getElem? hz)
  obtain ⟨d0, d1, d2, d3⟩ := zC_at zs i z hz
  exact ⟨z.2.1, z.2.2, nb, bcs, a, b, c, d0, d1, d2, d3⟩
theorem got_z {w : World} {v : Value} {L : List Fun} (h : Got w v L) : ∃ zs : List Zf, zs.map (·.1) = L ∧ w.ownsRow 0 86 4 v zs.length (zC zs) ∧ ∀ z ∈ zs, Zok Everywhere w z := by
  obtain ⟨n, cs, hr, hx⟩ := h
  obtain ⟨zs, e1, e2, e3⟩ := fn_z L cs hx
  have hn : n = zs.length := by have := hr.1; rw [e2, zC_len] at this; omega
  subst hn
  subst e2
  exact ⟨zs, e1, hr, e3⟩
theorem zC_one {S : Nat → Prop} {w : World} {zs : List Zf} (h : ∀ z ∈ zs, Zok S w z) : ∀ u ∈ zC zs, u.oneCell' = true := fun u hu => by
  obtain ⟨z, hz, hu⟩ := List.mem_flatMap.1 hu
  obtain ⟨nb, bcs, a, b, _⟩ := h z hz
  obtain ⟨q1, c1, e1⟩ := own_slice a.1
  obtain ⟨q2, c2, e2⟩ := own_slice b.1
  simp at hu
  rcases hu with rfl | rfl | rfl | rfl
  · rfl
  · rfl
  · rw [e1]; rfl
  · rw [e2]; rfl
theorem elem23 : Tryz.prog.underlying 24 = some (.slice (Tryz.prog.elem 24)) := by kernel_rfl
theorem size_41 (w : World) : (sizeOf (Tryz.prog.elem 24)).run Tryz.prog w = .ok 4 w := by kernel_rfl
theorem slice_to (g n c k : Nat) (w : World) (h : k ≤ c) : (Instr.slice 24 (.slice (some ⟨g, 0, none⟩) n c) none (some (.int .i64 (k : Int))) none).run Tryz.prog w = .ok (.slice (some ⟨g, 0, none⟩) k c) w := by
  rw [run_slice_h w 24 (some ⟨g, 0, none⟩) n c elem23 .i64 (k : Int) (by omega) (by omega), size_41]
  show Result.ok (sliced (some ⟨g, 0, none⟩) 0 (k : Int).toNat c 4) w = _
  unfold sliced
  simp [Addr.add]
theorem slice_from (g n c k : Nat) (w : World) (h : k ≤ n) (hc : k < c) : (Instr.slice 24 (.slice (some ⟨g, 0, none⟩) n c) (some (.int .i64 (k : Int))) none none).run Tryz.prog w = .ok (.slice (some ⟨g, k * 4, none⟩) (n - k) (c - k)) w := by
  rw [run_slice_l w 24 (some ⟨g, 0, none⟩) n c elem23 .i64 (k : Int) (by omega) (by omega), size_41]
  show Result.ok (sliced (some ⟨g, 0, none⟩) (k : Int).toNat n c 4) w = _
  unfold sliced
  have e : (k : Int).toNat = k := by omega
  rw [e, if_neg (by omega)]
  simp [add_plain']
/-- Some functions more, or none, at the end of a row, inside a region that draws. -/
theorem step_append_z {w : World} {ops : Array Oper} {o : Oper} {a : Act} {K : Act → World → Prop} {Q : Exit → Act → World → Prop} {E : Prop} (hgd : o.guard = none) (s x : Operand)
    (ho : o.op = .call { callee := .builtin .append, args := #[s, x], argTypes := #[24, 24] })
    (base g0 n cap : Nat) (xs : List Value) (hs : a.eval s = .slice (some ⟨g0, 0, none⟩) n cap) (hown : w.ownsRow base 86 4 (.slice (some ⟨g0, 0, none⟩) n cap) n xs)
    (ad : Addr) (m c : Nat) (news : List Value) (hx : a.eval x = .slice (some ad) m c) (hl : news.length = m * 4) (hnews : ∀ j u, news[j]? = some u → w.cell? (ad.add j) = some u) (h1 : ∀ u ∈ news, u.oneCell' = true)
    (h63 : n + m ≤ 1000) (hbase : base ≤ w.heap.size)
    (h : ∀ g cap w', w'.ownsRow base 86 4 (.slice (some ⟨g, 0, none⟩) (n + m) cap) (n + m) (xs ++ news) → Below base w w' → K (a.put o.dst (.slice (some ⟨g, 0, none⟩) (n + m) cap)) w') :
    if Region.wanted o (yielded ops a.tmps) = true then Oper.wp Tryz.prog o a w K Q else E := by
  obtain ⟨i0, hi0, hz0, hsz0, hbb0⟩ := info_parts info41
  rcases Nat.eq_zero_or_pos m with rfl | hm
  · have hw : Region.wanted o (yielded ops a.tmps) = true := by simp [Region.wanted, hgd]
    rw [if_pos hw]
    have hn : news = [] := List.eq_nil_of_length_eq_zero (by simpa using hl)
    subst hn
    have hle : n ≤ cap := by
      rcases hown.2 with ⟨e, _⟩ | ⟨g, cp, cur, e, _, _, h5, _⟩
      · cases e
      · injection e with _ _ e3
        rw [e3]
        exact h5
    have hr : (Builtin.append_ #[24, 24] o.type #[.slice (some ⟨g0, 0, none⟩) n cap, .slice (some ad) 0 c]).run Tryz.prog w = .ok (.slice (some ⟨g0, 0, none⟩) n cap) w :=
      run_append_nothing w 24 24 o.type 86 i0 Tryz.underlying24 hi0 _ n cap hle _ (Src.ofSlice w Tryz.underlying24 ad 0 c [] (by simp) (fun j u hu => by simp at hu) (fun u hu => by simp at hu))
    unfold Oper.wp execOp
    simp only [ho, resolve, invoke, builtin, Sem.run_bind, Sem.run_pure, Result.andThen_ok, List.map_toArray, List.map_cons, List.map_nil, hs, hx, hr]
    exact h g0 cap w (by simpa using hown) (Below.refl _ _)
  · exact step_append_lies w hgd s x 24 ho base 86 i0 _ 4 72 Tryz.underlying24 hi0 hz0 hsz0 hbb0 rfl (by decide) _ n xs hs hown ad m c news hx hl hnews h1 hm (by unfold maxLen; omega) (by omega) hbase _ rfl fun g cp w' h2 h3 _ _ => h g cp w' h2 ((Below.refl _ _).grown h3 hbase (fun i e => (hown.lt i e).1))
end Go.Proofs.YtnfhpdbbfejioaaGreatDoor

