/- Plain: what Check finds. Package check, walked: throw, find, variable. Package check, walked: find, variable, add. Package check, walked: add. Package check, walked: must, typeOf but for calls. Package check, walked: typeOf but for calls. Package check, walked: call; typeOf of any tree that is read. Package check, walked: block. Package check, walked: stmt. -/
import Derived.Test.YtpakgaegckkmnaaGreatDoorMX
import Derived.Test.YtpakgaegckkmnaaGreatDoorMC
namespace Go.Proofs.YtpakgaegckkmnaaGreatDoor
set_option linter.unusedVariables false
set_option linter.unusedSimpArgs false
open Go Go.RowKit

/-- An answer, or what is found, and where. -/
abbrev X (α : Type) := Except (Int × Int) α
abbrev Nm := List (By × Int)
def bx {α β : Type} (x : X α) (f : α → X β) : X β :=
  match x with
  | .error e => .error e
  | .ok a => f a
theorem bx_ok {α β : Type} {x : X α} {f : α → X β} {r : β} (h : bx x f = .ok r) : ∃ a, x = .ok a ∧ f a = .ok r := by
  unfold bx at h
  split at h
  · cases h
  · exact ⟨_, rfl, h⟩
def placeE : Tr → Int
  | .agg [_, .lit (.int _ a), _, _, _, _, _, _] => a
  | _ => 0
def fndN (ns : Nm) (nm : By) : Option Int := (ns.find? (fun x => x.1 == nm)).map (·.2)
/-- Of a type. -/
def isT (t k a : Int) : X Unit := if t = k then .ok () else .error (1, a)
/-- The type of an expression (args: each as its parameter). lk: parameters of a function. -/
def ck (lk : By → Option Nm) (ns : Nm) : Tr → Nm → X Int
  | .agg [.lit (.int _ c), .lit (.int _ a), .lit (.int _ _), .lit (.string nm), .lit (.string _), l, r, g], _ =>
    if c = 2 then (match fndN ns nm with | some k => .ok k | none => .error (7, a))
    else if c = 3 then bx (ck lk ns l []) fun t => bx (isT t 1 (placeE l)) fun _ => bx (ck lk ns r []) fun u => bx (isT u 1 (placeE r)) fun _ => .ok 1
    else if c = 4 then bx (ck lk ns l []) fun t => bx (isT t 1 (placeE l)) fun _ => .ok 1
    else if c = 5 then (match lk nm with | none => .error (7, a) | some ps => if chl g ≠ ps.length then .error (2, a) else bx (ck lk ns g ps) fun _ => .ok 1)
    else if c = 6 then bx (ck lk ns l []) fun t => bx (isT t 1 (placeE l)) fun _ => .ok 2
    else if c = 7 then bx (ck lk ns l []) fun t => bx (isT t 2 (placeE l)) fun _ => .ok 1
    else if c = 8 then bx (ck lk ns l []) fun t => bx (isT t 2 (placeE l)) fun _ => bx (ck lk ns r []) fun u => bx (isT u 1 (placeE r)) fun _ => .ok 1
    else .ok 1
  | .slice [x] [g], p :: ps => bx (ck lk ns x []) fun t => bx (isT t p.2 (placeE x)) fun _ => ck lk ns g ps
  | _, _ => .ok 0
/-- An expression that is to be of a type. -/
def mu (lk : By → Option Nm) (ns : Nm) (x : Tr) (k : Int) : X Unit := bx (ck lk ns x []) fun t => isT t k (placeE x)
def addV (s : Nm × Nat) (v : By × Int) (a : Int) : X (Nm × Nat) := if (fndN s.1 v.1).isSome then .error (9, a) else if s.2 = 12 then .error (12, a) else .ok (s.1 ++ [v], s.2 + 1)
/-- Statements, one behind the other: names that stand for something, how many there were. -/
def cks (lk : By → Option Nm) : Tr → Nm × Nat → X (Nm × Nat)
  | .slice [.agg [.lit (.int _ c), .lit (.int _ a), .lit (.string nm), ix, v, th, el]] [g], s =>
    bx (if c = 1 then bx (ck lk s.1 v []) fun t => addV s (nm, t) a
        else if c = 2 then (match fndN s.1 nm with | none => .error (7, a) | some k => bx (mu lk s.1 v k) fun _ => .ok s)
        else if c = 3 then (match fndN s.1 nm with | none => .error (7, a) | some k => if k ≠ 2 then .error (1, a) else bx (mu lk s.1 ix 1) fun _ => bx (mu lk s.1 v 1) fun _ => .ok s)
        else bx (mu lk s.1 v 1) fun _ => bx (cks lk th s) fun s1 => bx (cks lk el (s.1, s1.2)) fun s2 => .ok (s.1, s2.2)) fun s' => cks lk g s'
  | _, s => .ok s
def addsV (a : Int) : Nm → Nm × Nat → X (Nm × Nat)
  | [], s => .ok s
  | p :: ps, s => bx (addV s p a) fun s' => addsV a ps s'
/-- A function. -/
def ckF (lk : By → Option Nm) (F : Fun) : X Unit := bx (addsV F.at' F.ps ([], 0)) fun s => bx (cks lk F.body s) fun _ => .ok ()
def ckFs (lk : By → Option Nm) : List Fun → X Unit
  | [] => .ok ()
  | F :: L => bx (ckF lk F) fun _ => ckFs lk L
def lkL (L : List Fun) (nm : By) : Option Nm := (L.find? (fun F => F.nm == nm)).map (·.ps)
/-- None is called as one ahead. -/
def twice : List By → List Fun → X Unit
  | _, [] => .ok ()
  | ns, F :: L => if ns.contains F.nm then .error (9, F.at') else twice (F.nm :: ns) L
def mainB : By := [109, 97, 105, 110]
/-- A program: what is thrown; then whether main is there. -/
def chk (L : List Fun) : X Bool := bx (twice [] L) fun _ => bx (ckFs (lkL L) L) fun _ => .ok (match lkL L mainB with | some [] => true | _ => false)

/-- Only what functions are called matters, and what they have. -/
theorem twice_ok : ∀ (L : List Fun) (ns : List By), twice ns L = .ok () ↔ (L.map (·.nm)).Nodup ∧ ∀ F ∈ L, ns.contains F.nm = false
  | [], ns => by simp [twice]
  | F :: L, ns => by
    rw [twice]
    by_cases h : ns.contains F.nm = true
    · rw [if_pos h]
      refine ⟨fun e => (by cases e), fun ⟨_, h2⟩ => ?_⟩
      have := h2 F (by simp)
      rw [h] at this
      cases this
    · rw [if_neg h, twice_ok L (F.nm :: ns)]
      simp only [List.map_cons, List.nodup_cons, List.mem_cons, forall_eq_or_imp, List.contains_cons, Bool.or_eq_false_iff]
      constructor
      · rintro ⟨h1, h2⟩
        refine ⟨⟨fun hm => ?_, h1⟩, by simpa using h, fun G hG => (h2 G hG).2⟩
        obtain ⟨G, hG, e⟩ := List.mem_map.1 hm
        have := (h2 G hG).1
        rw [e] at this
        simp at this
      · rintro ⟨⟨h1, h2⟩, h3, h4⟩
        refine ⟨h2, fun G hG => ⟨?_, h4 G hG⟩⟩
        simp only [beq_eq_false_iff_ne, ne_eq]
        exact fun e => h1 (List.mem_map.2 ⟨G, hG, e⟩)
theorem find_nodup : ∀ (L : List Fun), (L.map (·.nm)).Nodup → ∀ F ∈ L, L.find? (fun G => G.nm == F.nm) = some F
  | [], _, F, h => by simp at h
  | G :: L, hn, F, h => by
    rw [List.map_cons, List.nodup_cons] at hn
    rw [List.find?_cons]
    rcases List.mem_cons.1 h with rfl | h
    · simp
    · have : (G.nm == F.nm) = false := by
        simp only [beq_eq_false_iff_ne, ne_eq]
        exact fun e => hn.1 (List.mem_map.2 ⟨F, h, e.symm⟩)
      rw [this]
      exact find_nodup L hn.2 F h
theorem lk_perm {L M : List Fun} (h : L.Perm M) (hn : (L.map (·.nm)).Nodup) : lkL M = lkL L := by
  have hm : (M.map (·.nm)).Nodup := (h.map (·.nm)).nodup_iff.1 hn
  funext nm
  unfold lkL
  cases hL : L.find? (fun F => F.nm == nm) with
  | none =>
    have : M.find? (fun F => F.nm == nm) = none := by
      rw [List.find?_eq_none] at hL ⊢
      exact fun F hF => hL F (h.mem_iff.2 hF)
    rw [this]
  | some F =>
    have hF := List.mem_of_find?_eq_some hL
    have e : F.nm = nm := by simpa using List.find?_some hL
    have := find_nodup M hm F (h.mem_iff.1 hF)
    rw [e] at this
    rw [this]
theorem fs_ok (lk : By → Option Nm) : ∀ L : List Fun, ckFs lk L = .ok () ↔ ∀ F ∈ L, ckF lk F = .ok ()
  | [] => by simp [ckFs]
  | F :: L => by
    rw [ckFs]
    constructor
    · intro h
      obtain ⟨a, h1, h2⟩ := bx_ok h
      intro G hG
      rcases List.mem_cons.1 hG with rfl | hG
      · exact h1
      · exact (fs_ok lk L).1 h2 G hG
    · intro h
      rw [h F (by simp)]
      exact (fs_ok lk L).2 (fun G hG => h G (by simp [hG]))
/-- In any order nothing is found. -/
theorem chk_perm {L M : List Fun} (h : L.Perm M) (hc : chk L = .ok true) : chk M = .ok true := by
  unfold chk at hc ⊢
  obtain ⟨_, h1, hc⟩ := bx_ok hc
  obtain ⟨_, h2, hc⟩ := bx_ok hc
  obtain ⟨hn, _⟩ := (twice_ok L []).1 h1
  have hm : (M.map (·.nm)).Nodup := (h.map (·.nm)).nodup_iff.1 hn
  have t : twice [] M = .ok () := (twice_ok M []).2 ⟨hm, fun F _ => by simp⟩
  have hf : ckFs (lkL L) M = .ok () := (fs_ok _ M).2 fun F hF => (fs_ok _ L).1 h2 F (h.mem_iff.2 hF)
  rw [t, lk_perm h hn]
  show bx (ckFs (lkL L) M) _ = _
  rw [hf]
  exact hc
/-- Without main something always is. -/
theorem chk_less (L : List Fun) : chk (L.filter (fun F => !(F.nm == mainB))) ≠ .ok true := by
  intro h
  unfold chk at h
  obtain ⟨_, h1, h⟩ := bx_ok h
  obtain ⟨_, h2, h⟩ := bx_ok h
  have : lkL (L.filter (fun F => !(F.nm == mainB))) mainB = none := by
    unfold lkL
    rw [Option.map_eq_none_iff, List.find?_eq_none]
    intro F hF
    have := (List.mem_filter.1 hF).2
    simpa using this
  rw [this] at h
  injection h with h
  cases h
end Go.Proofs.YtpakgaegckkmnaaGreatDoor

namespace Go.Proofs.YtpakgaegckkmnaaGreatDoor
set_option linter.unusedVariables false
set_option linter.unusedSimpArgs false
open Go Go.RowKit

/-- What is thrown. -/
def ThrewI (k a : Int) (e : Ending) (w' : World) : Prop := ∃ b, e = .panicked [{ v := .iface 43 (.pointer (some ⟨b, 0, none⟩)), recovered := false }] ∧ w'.heap[b]? = some (.cells #[.int .i64 k, .int .i64 a] 78)
set_option maxHeartbeats 1000000 in
theorem throw_any (k a : Int) (w : World) : Calls Tryz.prog 37 #[.int .i64 k, .int .i64 a] w fun e w' => ThrewI k a e w' ∧ Below w.heap.size w w' := by
  go_enter Tryz.func37, Tryz.ntmps37
  go_wp2
  exact ⟨rfl, ⟨_, rfl, heap_alloc_last w _⟩, (Below.refl _ _).alloc (Nat.le_refl _) _⟩
/-- The closure of find. -/
theorem same_any (y : ByteArray) (k : Int) (b : Nat) (nm : ByteArray) (w : World) (h : w.cell? ⟨b, 0, none⟩ = some (.string nm)) : Calls Tryz.prog 69 #[.agg #[.string y, .int .i64 k], .pointer (some ⟨b, 0, none⟩)] w fun e w' => e = .returned (.bool (decide (y = nm))) ∧ Below w.heap.size w w' := by
  have hA : (w.alloc (.cells #[.string y, .int .i64 k] 83)).cell? ⟨b, 0, none⟩ = some (.string nm) := (((Below.refl w.heap.size w).alloc (Nat.le_refl _) _).cell (World.block_lt_of_cell? w _ h)).trans h
  have HB : Hid (Below w.heap.size w (w.alloc (.cells #[.string y, .int .i64 k] 83))) := (Below.refl _ _).alloc (Nat.le_refl _) _
  by_cases e : y = nm
  · subst e
    go_enter Tryz.func69, Tryz.ntmps69
    go_wp2
    go_ret
    exact ⟨by simp, HB.out⟩
  · have e1 := bytes_neq e
    have e2 : decide (y = nm) = false := by simpa using e
    rw [e2]
    clear e2 e
    go_enter Tryz.func69, Tryz.ntmps69
    go_wp2
    go_ret
    exact ⟨rfl, HB.out⟩
/-- Where among names one stands. -/
def ixN (nm : By) : Nm → Option Nat
  | [] => none
  | x :: ns => if x.1 = nm then some 0 else (ixN nm ns).map (· + 1)
def ixI (ns : Nm) (nm : By) : Int := match ixN nm ns with | some i => i | none => -1
theorem ix_hit (nm : By) : ∀ (ns : Nm) (i : Nat) (x : By × Int), ns[i]? = some x → x.1 = nm → (∀ j y, j < i → ns[j]? = some y → ¬ y.1 = nm) → ixN nm ns = some i
  | [], i, x, h, _, _ => by simp at h
  | z :: ns, 0, x, h, hx, _ => by
    simp at h
    subst h
    rw [ixN, if_pos hx]
  | z :: ns, i + 1, x, h, hx, hn => by
    rw [ixN, if_neg (hn 0 z (by omega) rfl), ix_hit nm ns i x (by simpa using h) hx (fun j y hj hy => hn (j + 1) y (by omega) (by simpa using hy))]
    rfl
theorem ix_none (nm : By) : ∀ (ns : Nm), (∀ j y, j < ns.length → ns[j]? = some y → ¬ y.1 = nm) → ixN nm ns = none
  | [], _ => rfl
  | z :: ns, hn => by
    rw [ixN, if_neg (hn 0 z (by simp) rfl), ix_none nm ns (fun j y hj hy => hn (j + 1) y (by simpa using hj) (by simpa using hy))]
    rfl
theorem ix_fnd (nm : By) : ∀ (ns : Nm), (∃ i x, ixN nm ns = some i ∧ ns[i]? = some x ∧ i < ns.length ∧ fndN ns nm = some x.2) ∨ (ixN nm ns = none ∧ fndN ns nm = none)
  | [] => .inr ⟨rfl, rfl⟩
  | z :: ns => by
    unfold fndN
    rw [ixN, List.find?_cons]
    by_cases h : z.1 = nm
    · have : (z.1 == nm) = true := by simpa using h
      rw [if_pos h, this]
      exact .inl ⟨0, z, rfl, rfl, by simp, rfl⟩
    · have : (z.1 == nm) = false := by simpa using h
      rw [if_neg h, this]
      rcases ix_fnd nm ns with ⟨i, x, h1, h2, h3, h4⟩ | ⟨h1, h2⟩
      · exact .inl ⟨i + 1, x, by rw [h1]; rfl, by simpa using h2, by simpa using h3, h4⟩
      · exact .inr ⟨by rw [h1]; rfl, h2⟩
set_option maxRecDepth 100000 in
set_option maxHeartbeats 2000000 in
theorem index_any (ns : Nm) (v : Value) (B b : Nat) (nm : ByteArray) (w : World) (hr : w.ownsRow B 83 2 v ns.length (psC ns)) (hl : ns.length ≤ 1000) (h : w.cell? ⟨b, 0, none⟩ = some (.string nm)) :
    Calls Tryz.prog 68 #[v, .func (.func 69) #[] #[.pointer (some ⟨b, 0, none⟩)]] w fun e w' => e = .returned (.int .i64 (ixI ns nm.data.toList)) ∧ Below w.heap.size w w' := by
  obtain ⟨q, c, rfl⟩ := own_slice hr
  have HR : Hid (w.ownsRow B 83 2 (.slice q ns.length c) ns.length (psC ns)) := hr
  have HC : Hid (∀ W, Below w.heap.size w W → W.cell? ⟨b, 0, none⟩ = some (.string nm)) := fun W hb => (hb.cell (World.block_lt_of_cell? w _ h)).trans h
  obtain ⟨n, hn⟩ : ∃ n, n = ns.length := ⟨_, rfl⟩
  have HN : Hid (n = ns.length) := hn
  rw [← hn] at HR hl ⊢
  clear hr hn h
  go_enter Tryz.func68, Tryz.ntmps68
  go_wp2_with fail
  go_loopw [8] (fun v wr => ∃ i : Nat, i ≤ n ∧ v = .int .i64 i ∧ Hid (∀ j y, j < i → ns[j]? = some y → ¬ y.1 = nm.data.toList) ∧ Hid (Below w.heap.size w wr)) (fun v _ => n - (intOf v).toNat)
  case atStart => exact ⟨0, Nat.zero_le _, rfl, fun j y hj => by omega, Below.refl _ _⟩
  case round =>
    obtain ⟨i, hin, rfl, HI, HB⟩ := hrel
    by_cases hlt : i < n
    · obtain ⟨g, cap, e, -, -⟩ := HR.out.form (by omega)
      injection e with e1 e2 e3
      subst e1
      clear e2 e3
      obtain ⟨x, hx⟩ : ∃ x, ns[i]? = some x := ⟨ns[i]'(by have := HN.out; omega), List.getElem?_eq_getElem (by have := HN.out; omega)⟩
      obtain ⟨hc0, hc1⟩ := psC_get ns i x hx
      obtain ⟨y, hy, hyt⟩ := str_y x.1
      rw [hy] at hc0
      have hrow := HR.out.kept (grown_none HB.out) (.inr (by simp [Value.ownBlock]))
      have q0 : wr.cell? ⟨g, i * 2, none⟩ = some (.string y) := by
        have := hrow.cells (g := g) rfl (i * 2) _ hc0
        rw [add_plain'] at this
        exact this
      have q1 : wr.cell? ⟨g, i * 2 + 1, none⟩ = some (.int .i64 x.2) := by
        have := hrow.cells (g := g) rfl (i * 2 + 1) _ hc1
        rw [add_plain'] at this
        exact this
      generalize x.2 = ty at q1
      have HS : Hid (Calls Tryz.prog 69 #[.agg #[.string y, .int .i64 ty], .pointer (some ⟨b, 0, none⟩)] wr fun e w' => e = .returned (.bool (decide (y = nm))) ∧ Below wr.heap.size wr w') := same_any y ty b nm wr (HC.out wr HB.out)
      have HX : Hid (ns[i]? = some x ∧ y.data.toList = x.1) := ⟨hx, hyt⟩
      clear hrow hc0 hc1 hx hy hyt
      by_cases he : y = nm
      · have hd : decide (y = nm) = true := by simpa using he
        rw [hd] at HS
        have HE : Hid (ixI ns nm.data.toList = (i : Int)) := by
          show _ = _
          unfold ixI
          rw [ix_hit nm.data.toList ns i x HX.out.1 (by rw [← HX.out.2, he]) HI.out]
        clear hd he
        go_wp2_with (go_at_call 69; refine HS.out.mono ?_; rintro e w1 ⟨rfl, hb⟩; have HB1 : Hid (Below w.heap.size w w1) := HB.out.trans (hb.mono HB.out.size); clear hb)
        go_ret
        exact ⟨by rw [HE.out]; rfl, HB1.out⟩
      · have hd : decide (y = nm) = false := by simpa using he
        rw [hd] at HS
        have HI2 : Hid (∀ j y, j < i + 1 → ns[j]? = some y → ¬ y.1 = nm.data.toList) := fun j z hj hz => by
          rcases Nat.lt_or_ge j i with hj2 | hj2
          · exact HI.out j z hj2 hz
          · obtain rfl : j = i := by omega
            rw [HX.out.1] at hz
            injection hz with hz
            subst hz
            rw [← HX.out.2]
            exact fun e => he (ba_inj e)
        clear hd he
        go_wp2_with (go_at_call 69; refine HS.out.mono ?_; rintro e w1 ⟨rfl, hb⟩; have HB1 : Hid (Below w.heap.size w w1) := HB.out.trans (hb.mono HB.out.size); clear hb)
        exact ⟨⟨i + 1, by omega, by go_num, HI2, HB1⟩, by simp [intOf]; omega⟩
    · obtain rfl : i = n := by omega
      have HE : Hid (ixI ns nm.data.toList = -1) := by
        show _ = _
        unfold ixI
        rw [ix_none nm.data.toList ns (fun j y hj hy => HI.out j y (by rw [HN.out]; exact hj) hy)]
      clear hlt
      go_wp2
      go_ret
      exact ⟨by rw [HE.out]; rfl, HB.out⟩
end Go.Proofs.YtpakgaegckkmnaaGreatDoor

namespace Go.Proofs.YtpakgaegckkmnaaGreatDoor
set_option linter.unusedVariables false
set_option linter.unusedSimpArgs false
open Go Go.RowKit

/-- A checker in block C: names that stand for something, how many there were. -/
structure CkS (w : World) (C : Nat) (fv mv nv : Value) (ns : Nm) (k : Nat) : Prop where
  blk : w.heap[C]? = some (.cells #[fv, mv, nv, .int .i64 (k : Int)] 67)
  row : w.ownsRow (C + 1) 83 2 nv ns.length (psC ns)
  le : ns.length ≤ k
  k12 : k ≤ 12
theorem CkS.below {w w' : World} {C : Nat} {fv mv nv : Value} {ns : Nm} {k : Nat} (h : CkS w C fv mv nv ns k) (hb : Below w.heap.size w w') : CkS w' C fv mv nv ns k :=
  ⟨by rw [hb.block C (Array.getElem?_eq_some_iff.1 h.blk).1]; exact h.blk, h.row.kept (grown_none hb) (by cases nv.ownBlock <;> simp), h.le, h.k12⟩
theorem CkS.lt {w : World} {C : Nat} {fv mv nv : Value} {ns : Nm} {k : Nat} (h : CkS w C fv mv nv ns k) : C < w.heap.size := (Array.getElem?_eq_some_iff.1 h.blk).1

set_option maxRecDepth 100000 in
set_option maxHeartbeats 2000000 in
theorem find_any {w : World} {C : Nat} {fv mv nv : Value} {ns : Nm} {k : Nat} (h : CkS w C fv mv nv ns k) (nm : ByteArray) :
    Calls Tryz.prog 56 #[.pointer (some ⟨C, 0, none⟩), .string nm] w fun e w' => e = .returned (.int .i64 (ixI ns nm.data.toList)) ∧ Below w.heap.size w w' := by
  have hmf : ∀ (fn : Fn) (first cap : Array Value) (w : World), (Instr.makeFunc fn first cap).run Tryz.prog w = .ok (.func fn first cap) w := fun _ _ _ _ => rfl
  obtain ⟨q, c, rfl⟩ := own_slice h.row
  have hb1 : Below w.heap.size w (w.alloc (.cells #[.string nm] 9)) := (Below.refl _ _).alloc (Nat.le_refl _) _
  have h1 := h.below hb1
  have c2 := cell_at (i := 2) h1.blk rfl
  have HI : Hid (Calls Tryz.prog 68 #[.slice q ns.length c, .func (.func 69) #[] #[.pointer (some ⟨w.heap.size, 0, none⟩)]] (w.alloc (.cells #[.string nm] 9)) fun e w' => e = .returned (.int .i64 (ixI ns nm.data.toList)) ∧ Below (w.alloc (.cells #[.string nm] 9)).heap.size (w.alloc (.cells #[.string nm] 9)) w') :=
    index_any ns _ (C + 1) w.heap.size nm _ h1.row (by have := h.le; have := h.k12; omega) (cell_at (i := 0) (heap_alloc_last w _) rfl)
  have HB : Hid (∀ w', Below (w.alloc (.cells #[.string nm] 9)).heap.size (w.alloc (.cells #[.string nm] 9)) w' → Below w.heap.size w w') := fun w' hb => hb1.trans (hb.mono (by simp))
  generalize ns.length = n at *
  clear h h1 hb1
  go_enter Tryz.func56, Tryz.ntmps56
  go_wp2_with (go_at_call 68; refine HI.out.mono ?_; rintro e w1 ⟨rfl, hb⟩; have HB1 : Hid (Below w.heap.size w w1) := HB.out _ hb; clear hb)
  go_ret
  exact ⟨rfl, HB1.out⟩
theorem fnd_le {ns : Nm} {nm : By} : (∃ (i : Nat) (x : By × Int), ixI ns nm = (i : Int) ∧ ns[i]? = some x ∧ i < ns.length ∧ fndN ns nm = some x.2) ∨ (ixI ns nm = -1 ∧ fndN ns nm = none) := by
  unfold ixI
  rcases ix_fnd nm ns with ⟨i, x, h1, h2, h3, h4⟩ | ⟨h1, h2⟩
  · exact .inl ⟨i, x, by rw [h1], h2, h3, h4⟩
  · exact .inr ⟨by rw [h1], h2⟩

/-- What variable leaves. -/
def VarP (r : Option Int) (a : Int) (e : Ending) (w' : World) : Prop := (∃ t, r = some t ∧ e = .returned (.int .i64 t)) ∨ (r = none ∧ ThrewI 7 a e w')
set_option maxRecDepth 100000 in
set_option maxHeartbeats 2000000 in
theorem variable_any {w : World} {C : Nat} {fv mv nv : Value} {ns : Nm} {k : Nat} (h : CkS w C fv mv nv ns k) (nm : ByteArray) (a : Int) :
    Calls Tryz.prog 72 #[.pointer (some ⟨C, 0, none⟩), .string nm, .int .i64 a] w fun e w' => VarP (fndN ns nm.data.toList) a e w' ∧ Below w.heap.size w w' := by
  have HF : Hid (Calls Tryz.prog 56 #[.pointer (some ⟨C, 0, none⟩), .string nm] w fun e w' => e = .returned (.int .i64 (ixI ns nm.data.toList)) ∧ Below w.heap.size w w') := find_any h nm
  have HS : Hid (CkS w C fv mv nv ns k) := h
  rcases fnd_le (ns := ns) (nm := nm.data.toList) with ⟨i, x, e1, e2, e3, e4⟩ | ⟨e1, e2⟩
  · rw [e1] at HF
    obtain ⟨ty, hty⟩ : ∃ ty, x.2 = ty := ⟨_, rfl⟩
    rw [hty] at e4
    rw [e4]
    have HTy : Hid (x.2 = ty) := hty
    have HX : Hid (ns[i]? = some x ∧ i < ns.length) := ⟨e2, e3⟩
    have hi : ns.length ≤ 12 := by have := h.le; have := h.k12; omega
    obtain ⟨n, hn⟩ : ∃ n, n = ns.length := ⟨_, rfl⟩
    rw [← hn] at e3 hi
    have HNn : Hid (n = ns.length) := hn
    clear h e1 e2 e4 hn hty
    go_enter Tryz.func72, Tryz.ntmps72
    go_wp2_with (go_at_call 56; fail)
    refine HF.out.mono ?_
    rintro e w1 ⟨rfl, hb⟩
    have hS1 := HS.out.below hb
    have HB1 : Hid (Below w.heap.size w w1) := hb
    have hrow := hS1.row
    obtain ⟨g, cap, ev, -, -⟩ := hrow.form (by have := HX.out.2; omega)
    rw [ev] at hrow hS1
    obtain ⟨hc0, hc1⟩ := psC_get ns i x HX.out.1
    have q1 : w1.cell? ⟨g, i * 2 + 1, none⟩ = some (.int .i64 x.2) := by
      have := hrow.cells (g := g) rfl (i * 2 + 1) _ hc1
      rw [add_plain'] at this
      exact this
    have c2 := cell_at (i := 2) hS1.blk rfl
    rw [← HNn.out] at c2
    rw [HTy.out] at q1
    clear hb hS1 hrow hc0 hc1 ev
    go_wp2
    go_ret
    exact ⟨.inl ⟨ty, rfl, rfl⟩, HB1.out⟩
  · rw [e1] at HF
    rw [e2]
    clear h e1 e2
    go_enter Tryz.func72, Tryz.ntmps72
    go_wp2_with (go_at_call 56; fail)
    refine HF.out.mono ?_
    rintro e w1 ⟨rfl, hb⟩
    have HB1 : Hid (Below w.heap.size w w1) := hb
    clear hb
    go_wp2_with (go_at_call 37; fail)
    refine (throw_any 7 a w1).mono ?_
    rintro e w2 ⟨⟨b, rfl, hb2⟩, hb⟩
    exact ⟨rfl, .inr ⟨rfl, b, rfl, hb2⟩, HB1.out.trans (hb.mono HB1.out.size)⟩
end Go.Proofs.YtpakgaegckkmnaaGreatDoor

namespace Go.Proofs.YtpakgaegckkmnaaGreatDoor
set_option linter.unusedVariables false
set_option linter.unusedSimpArgs false
open Go Go.RowKit

/-- What neither is a checker nor holds names stands. -/
def Kt (w w' : World) : Prop := ∀ (b : Nat) (cs : Array Value) (t : TypeId), t ≠ 67 → t ≠ 83 → w.heap[b]? = some (.cells cs t) → w'.heap[b]? = some (.cells cs t)
theorem Kt.trans {a b c : World} (h : Kt a b) (g : Kt b c) : Kt a c := fun k cs t h1 h2 hk => g k cs t h1 h2 (h k cs t h1 h2 hk)
theorem kt_below {w w' : World} (h : Below w.heap.size w w') : Kt w w' := fun b cs t _ _ hb => by rw [h.block b (Array.getElem?_eq_some_iff.1 hb).1]; exact hb
theorem kt_set {w : World} {C i : Nat} {cs : Array Value} {v : Value} (h : w.heap[C]? = some (.cells cs 67)) : Kt w (w.setCell ⟨C, i, none⟩ v) := fun b ds t h1 _ hb => by
  rw [heap_setCell_other _ _ _ _ (by
    show b ≠ C
    intro e
    rw [e, h] at hb
    injection hb with hb
    injection hb with _ h2
    exact h1 h2.symm)]
  exact hb
theorem kt_grown {w w' : World} {v : Value} {B n : Nat} {xs : List Value} (h : w.grownBy w' v.ownBlock) (hr : w.ownsRow B 83 2 v n xs) : Kt w w' := fun b ds t _ h2 hb => by
  rw [h.block b (Array.getElem?_eq_some_iff.1 hb).1 (fun e => by
    rcases hr.2 with ⟨e1, _⟩ | ⟨g, cap, cur, e1, _, e3, _⟩
    · rw [e1] at e; cases e
    · rw [e1] at e
      injection e with e
      have e' : b = g := e
      rw [e', e3] at hb
      injection hb with hb
      injection hb with _ h4
      exact h2 h4.symm)]
  exact hb
/-- What is left of a checker. -/
def CkP (r : X (Nm × Nat)) (C : Nat) (fv mv : Value) (w : World) (e : Ending) (w' : World) : Prop :=
  ((∃ ns k nv, r = .ok (ns, k) ∧ e = .returned (.tuple #[]) ∧ CkS w' C fv mv nv ns k) ∨ (∃ k a, r = .error (k, a) ∧ ThrewI k a e w')) ∧ Below C w w' ∧ Kt w w'

set_option maxRecDepth 100000 in
set_option maxHeartbeats 4000000 in
theorem add_any {w : World} {C : Nat} {fv mv nv : Value} {ns : Nm} {k : Nat} (h : CkS w C fv mv nv ns k) (nm : ByteArray) (ty a : Int) :
    Calls Tryz.prog 38 #[.pointer (some ⟨C, 0, none⟩), .agg #[.string nm, .int .i64 ty], .int .i64 a] w (CkP (addV (ns, k) (nm.data.toList, ty) a) C fv mv w) := by
  obtain ⟨W0, hW0⟩ : ∃ W0, W0 = w.alloc (.cells #[.string nm, .int .i64 ty] 83) := ⟨_, rfl⟩
  have hb0 : Below w.heap.size w W0 := by rw [hW0]; exact (Below.refl _ _).alloc (Nat.le_refl _) _
  have hp0 : W0.heap[w.heap.size]? = some (.cells #[.string nm, .int .i64 ty] 83) := by rw [hW0]; exact heap_alloc_last w _
  have h0 := h.below hb0
  have HF : Hid (Calls Tryz.prog 56 #[.pointer (some ⟨C, 0, none⟩), .string nm] W0 fun e w' => e = .returned (.int .i64 (ixI ns nm.data.toList)) ∧ Below W0.heap.size W0 w') := find_any h0 nm
  have HS0 : Hid (CkS W0 C fv mv nv ns k) := h0
  have HP0 : Hid (W0.heap[w.heap.size]? = some (.cells #[.string nm, .int .i64 ty] 83)) := hp0
  have HB0 : Hid (Below w.heap.size w W0) := hb0
  have HCl : Hid (C < w.heap.size) := h.lt
  have HG0 : Hid (∀ e w', CkP (addV (ns, k) (nm.data.toList, ty) a) C fv mv w e w' → CkP (addV (ns, k) (nm.data.toList, ty) a) C fv mv w e w') := fun _ _ h => h
  generalize hG : CkP (addV (ns, k) (nm.data.toList, ty) a) C fv mv w = G at *
  clear HG0
  have HG0 : Hid (∀ e w', CkP (addV (ns, k) (nm.data.toList, ty) a) C fv mv w e w' → G e w') := fun e w' h => by rw [← hG]; exact h
  have hk12 := h.k12
  have c0 : (w.alloc (.cells #[.string nm, .int .i64 ty] 83)).cell? ⟨w.heap.size, 0, none⟩ = some (.string nm) := cell_at (i := 0) (heap_alloc_last w _) rfl
  clear hb0 hp0 h0 h hG
  rcases fnd_le (ns := ns) (nm := nm.data.toList) with ⟨i, x, e1, e2, e3, e4⟩ | ⟨e1, e2⟩
  · rw [e1] at HF
    have HR : Hid (addV (ns, k) (nm.data.toList, ty) a = .error (9, a)) := by
      show _ = _
      unfold addV
      rw [if_pos (by rw [show fndN (ns, k).1 (nm.data.toList, ty).1 = fndN ns nm.data.toList from rfl, e4]; rfl)]
    clear e1 e2 e3 e4
    go_enter Tryz.func38, Tryz.ntmps38
    go_wp2_with (go_at_call 56; fail)
    rw [← hW0]
    clear hW0 c0
    refine HF.out.mono ?_
    rintro e w1 ⟨rfl, hb⟩
    have HB1 : Hid (Below w.heap.size w w1) := HB0.out.trans (hb.mono HB0.out.size)
    clear hb
    go_wp2_with (go_at_call 37; fail)
    refine (throw_any 9 a w1).mono ?_
    rintro e w2 ⟨⟨b, rfl, hb2⟩, hb⟩
    exact ⟨rfl, HG0.out _ _ ⟨.inr ⟨9, a, HR.out, b, rfl, hb2⟩, (HB1.out.trans (hb.mono HB1.out.size)).mono (Nat.le_of_lt HCl.out), kt_below (HB1.out.trans (hb.mono HB1.out.size))⟩⟩
  · rw [e1] at HF
    by_cases h12 : k = 12
    · have HR : Hid (addV (ns, k) (nm.data.toList, ty) a = .error (12, a)) := by
        show _ = _
        unfold addV
        rw [if_neg (by rw [show fndN (ns, k).1 (nm.data.toList, ty).1 = fndN ns nm.data.toList from rfl, e2]; simp), if_pos h12]
      subst h12
      clear e1 e2
      go_enter Tryz.func38, Tryz.ntmps38
      go_wp2_with (go_at_call 56; fail)
      rw [← hW0]
      clear hW0 c0
      refine HF.out.mono ?_
      rintro e w1 ⟨rfl, hb⟩
      have HB1 : Hid (Below w.heap.size w w1) := HB0.out.trans (hb.mono HB0.out.size)
      have c3 := cell_at (i := 3) (HS0.out.below hb).blk rfl
      clear hb
      go_wp2_with (go_at_call 37; fail)
      refine (throw_any 12 a w1).mono ?_
      rintro e w2 ⟨⟨b, rfl, hb2⟩, hb⟩
      exact ⟨rfl, HG0.out _ _ ⟨.inr ⟨12, a, HR.out, b, rfl, hb2⟩, (HB1.out.trans (hb.mono HB1.out.size)).mono (Nat.le_of_lt HCl.out), kt_below (HB1.out.trans (hb.mono HB1.out.size))⟩⟩
    · have HR : Hid (addV (ns, k) (nm.data.toList, ty) a = .ok (ns ++ [(nm.data.toList, ty)], k + 1)) := by
        show _ = _
        unfold addV
        rw [if_neg (by rw [show fndN (ns, k).1 (nm.data.toList, ty).1 = fndN ns nm.data.toList from rfl, e2]; simp), if_neg h12]
      have h12' : ((k : Int) == 12) = false := by simp; omega
      clear e1 e2
      obtain ⟨i0, hi0, hz0, hs0, hbb0⟩ := info_parts info83
      go_enter Tryz.func38, Tryz.ntmps38
      go_wp2_with (go_at_call 56; fail)
      rw [← hW0]
      clear hW0 c0
      refine HF.out.mono ?_
      rintro e w1 ⟨rfl, hb⟩
      have HB1 : Hid (Below w.heap.size w w1) := HB0.out.trans (hb.mono HB0.out.size)
      have hS1 := HS0.out.below hb
      obtain ⟨q, cq, rfl⟩ := own_slice hS1.row
      have hp1 : w1.heap[w.heap.size]? = some (.cells #[.string nm, .int .i64 ty] 83) := by rw [hb.block _ (Array.getElem?_eq_some_iff.1 HP0.out).1]; exact HP0.out
      have c2 := cell_at (i := 2) hS1.blk rfl
      have c3 := cell_at (i := 3) hS1.blk rfl
      have p0 := cell_at (i := 0) hp1 rfl
      have p1 := cell_at (i := 1) hp1 rfl
      have f3 := row_free hS1.blk 3
      have HS1 : Hid (CkS w1 C fv mv (.slice q ns.length cq) ns k) := hS1
      have HP1 : Hid (w1.heap[w.heap.size]? = some (.cells #[.string nm, .int .i64 ty] 83)) := hp1
      clear hb hS1 hp1
      go_wp2_with fail
      obtain ⟨W2, hW2⟩ : ∃ W2, W2 = w1.setCell ⟨C, 3, none⟩ (.int .i64 ((k : Int) + 1)) := ⟨_, rfl⟩
      have hblk2 : W2.heap[C]? = some (.cells #[fv, mv, .slice q ns.length cq, .int .i64 ((k : Int) + 1)] 67) := by rw [hW2]; exact heap_setCell_same _ _ _ _ _ _ HS1.out.blk
      have hp2 : W2.heap[w.heap.size]? = some (.cells #[.string nm, .int .i64 ty] 83) := by
        rw [hW2, heap_setCell_other _ _ _ _ (by show w.heap.size ≠ C; have := HCl.out; omega)]
        exact HP1.out
      have hrow2 : W2.ownsRow (C + 1) 83 2 (.slice q ns.length cq) ns.length (psC ns) := by rw [hW2]; exact ownsRow_setCell_below HS1.out.row (by show C < C + 1; omega) _
      have hb2 : Below C w W2 := by rw [hW2]; exact (HB1.out.mono (Nat.le_of_lt HCl.out)).setCell (p := ⟨C, 3, none⟩) (Nat.le_refl _) _
      have hCl2 : C < W2.heap.size := (Array.getElem?_eq_some_iff.1 hblk2).1
      have hk2 : Kt w W2 := by rw [hW2]; exact (kt_below HB1.out).trans (kt_set HS1.out.blk)
      have HK2 : Hid (Kt w W2) := hk2
      rw [← hW2]
      have c2' := cell_at (i := 2) hblk2 rfl
      have ca2 : (W2.alloc (.cells #[.string nm, .int .i64 ty] 83)).cell? ⟨C, 2, none⟩ = some (.slice q ns.length cq) := cell_at (i := 2) (row_alloc hblk2 _) rfl
      have p0' := cell_at (i := 0) hp2 rfl
      have p1' := cell_at (i := 1) hp2 rfl
      have HO4 : Hid (((W2.alloc (.cells #[.string nm, .int .i64 ty] 83)).drew).ownsRow (C + 1) 83 2 (.slice q ns.length cq) ns.length (psC ns)) := (hrow2.alloc _).drew
      have HN4 : Hid (∀ (i : Nat) (x : Value), ([.string nm, .int .i64 ty] : List Value)[i]? = some x → ((W2.alloc (.cells #[.string nm, .int .i64 ty] 83)).drew).cell? ((⟨W2.heap.size, 0, none⟩ : Addr).add i) = some x) := World.news_of_block (cs := #[.string nm, .int .i64 ty]) (t := 83) (fr := (0, 0)) (heap_alloc_last W2 _)
      have H14 : Hid (∀ u ∈ ([.string nm, .int .i64 ty] : List Value), u.oneCell' = true) := fun u hu => by simp at hu; rcases hu with rfl | rfl <;> rfl
      have HZ4 : Hid (C + 1 ≤ ((W2.alloc (.cells #[.string nm, .int .i64 ty] 83)).drew).heap.size) := by show _ ≤ _; simp; omega
      have HBk : Hid (∀ i, (Value.slice q ns.length cq).ownBlock = some i → C + 1 ≤ i ∧ i < W2.heap.size) := fun i hi => hrow2.lt i hi
      have HBl2 : Hid (W2.heap[C]? = some (.cells #[fv, mv, .slice q ns.length cq, .int .i64 ((k : Int) + 1)] 67)) := hblk2
      have HB2 : Hid (Below C w W2) := hb2
      have HC2 : Hid (C < W2.heap.size) := hCl2
      have hn12 : ns.length ≤ 12 := by have := HS1.out.le; omega
      have HNk : Hid (ns.length ≤ k) := HS1.out.le
      have HPs : Hid (psC (ns ++ [(nm.data.toList, ty)]) = psC ns ++ [.string nm, .int .i64 ty]) := by
        show _ = _
        have e : str nm.data.toList = .string nm := by
          show Value.string ⟨nm.data.toList.toArray⟩ = .string nm
          simp
        simp [psC, e]
      obtain ⟨n, hn⟩ : ∃ n, n = ns.length := ⟨_, rfl⟩
      have HNn : Hid (n = ns.length) := hn
      rw [← hn] at c2' ca2 HO4 HBk HBl2 hn12 HNk
      clear hk2 hW2 hblk2 hp2 hrow2 hb2 hCl2 c2 c3 p0 p1 f3 HS1 HP1 HB1 hn HS0 HP0 HB0 HF
      go_region_law (refine step_append_lies _ rfl (.tmp 31) (.tmp 33) 38 rfl (C + 1) 83 i0 _ 2 24 Tryz.underlying38 hi0 hz0 hs0 hbb0 rfl (by decide) (.slice q n cq) n (psC ns) (by simp [Act.eval]) HO4.out ⟨W2.heap.size, 0, none⟩ 1 1 [.string nm, .int .i64 ty] (by simp [Act.eval]) rfl HN4.out H14.out (by decide) (by unfold maxLen; omega) (by omega) HZ4.out (W2.heap.size + 1) (by simp) ?_; intro g5 cap5 w5 hown5 hgrow5 hg5 hlt5; have hCb : w5.heap[C]? = some (.cells #[fv, mv, .slice q n cq, .int .i64 ((k : Int) + 1)] 67) := (by rw [hgrow5.block C (by simp; have := HC2.out; omega) (fun e => by have := (HBk.out C e.symm).1; omega)]; exact row_alloc HBl2.out _); have HCb : Hid (w5.heap[C]? = some (.cells #[fv, mv, .slice q n cq, .int .i64 ((k : Int) + 1)] 67)) := hCb; have HO5 : Hid (w5.ownsRow (C + 1) 83 2 (.slice (some ⟨g5, 0, none⟩) (n + 1) cap5) (n + 1) (psC ns ++ [.string nm, .int .i64 ty])) := hown5; have HB5 : Hid (Below C w w5) := ((HB2.out.alloc (by have := HC2.out; omega) _).drew.grown hgrow5 (by simp; have := HC2.out; omega) (fun i e => by have := (HBk.out i e).1; omega)); have HK5 : Hid (Kt w w5) := (HK2.out.trans (kt_below (by exact ((Below.refl _ _).alloc (Nat.le_refl _) _).drew))).trans (kt_grown hgrow5 HO4.out); have f5 := row_free hCb 2; have cc5 := cell_at (i := 2) hCb rfl; clear hown5 hgrow5 hg5 hlt5 hCb)
      all_goals
        go_wp2
        go_end0
        refine HG0.out _ _ ⟨.inl ⟨ns ++ [(nm.data.toList, ty)], k + 1, .slice (some ⟨g5, 0, none⟩) (n + 1) cap5, HR.out, rfl, ?_, ?_, ?_, ?_⟩, ?_, ?_⟩
        · rw [show ((k + 1 : Nat) : Int) = (k : Int) + 1 by omega]
          exact heap_setCell_same _ _ _ _ _ _ HCb.out
        · have e : (ns ++ [(nm.data.toList, ty)]).length = n + 1 := by rw [HNn.out]; simp
          rw [e, HPs.out]
          exact ownsRow_setCell_below HO5.out (by show C < C + 1; omega) _
        · have := HNk.out; have := HNn.out; simp; omega
        · omega
        · exact HB5.out.setCell (p := ⟨C, 2, none⟩) (Nat.le_refl _) _
        · exact HK5.out.trans (kt_set HCb.out)
end Go.Proofs.YtpakgaegckkmnaaGreatDoor

namespace Go.Proofs.YtpakgaegckkmnaaGreatDoor
set_option linter.unusedVariables false
set_option linter.unusedSimpArgs false
open Go Go.RowKit

/-- Where the first function of a name stands. -/
def ixF (nm : By) : List Fun → Option Nat
  | [] => none
  | F :: L => if F.nm = nm then some 0 else (ixF nm L).map (· + 1)
/-- What a checker looks up: functions' parameters, by their places; places, by names. It lies below C. -/
structure FxS (w : World) (C : Nat) (fv mv : Value) (fs : List Fun) : Prop where
  low : C ≤ w.heap.size
  par : ∀ w', Below C w w' → ∀ i F, fs[i]? = some F → ∃ g c vp, fv = .slice (some ⟨g, 0, none⟩) fs.length c ∧ w'.cell? ⟨g, i * 4 + 2, none⟩ = some vp ∧ w'.ownsRow 0 83 2 vp F.ps.length (psC F.ps) ∧ F.ps.length ≤ 1000000
  look : ∀ w', Below C w w' → ∀ nm : ByteArray, nm.size ≤ 1000000 → (Instr.lookup 63 mv (.string nm) true).run Tryz.prog w' = .ok (.tuple #[.int .i64 (((ixF nm.data.toList fs).getD 0 : Nat) : Int), .bool (ixF nm.data.toList fs).isSome]) w'
  few : fs.length ≤ 12
theorem FxS.below {w w' : World} {C : Nat} {fv mv : Value} {fs : List Fun} (h : FxS w C fv mv fs) (hb : Below C w w') : FxS w' C fv mv fs :=
  ⟨Nat.le_trans h.low hb.size, fun u hu => h.par u (hb.trans hu), fun u hu => h.look u (hb.trans hu), h.few⟩
abbrev Lo (C : Nat) : Nat → Prop := fun b => b < C
theorem lo_keeps {C : Nat} {w w' : World} (h : Below C w w') : Keeps (Lo C) w w' := fun b cs t hb _ hk => by rw [h.block b hb]; exact hk
/-- What typeOf leaves. -/
def TyP (r : X Int) (w : World) (e : Ending) (w' : World) : Prop := ((∃ k, r = .ok k ∧ e = .returned (.int .i64 k)) ∨ (∃ k a, r = .error (k, a) ∧ ThrewI k a e w')) ∧ Below w.heap.size w w'
def MuP (r : X Unit) (w : World) (e : Ending) (w' : World) : Prop := ((r = .ok () ∧ e = .returned (.tuple #[])) ∨ (∃ k a, r = .error (k, a) ∧ ThrewI k a e w')) ∧ Below w.heap.size w w'
def TyC (t : Tr) : Prop := ∀ (w : World) (C : Nat) (fv mv nv : Value) (fs : List Fun) (ns : Nm) (k : Nat) (v : Value), CkS w C fv mv nv ns k → FxS w C fv mv fs → ExAt (Lo C) w t v → Calls Tryz.prog 70 #[.pointer (some ⟨C, 0, none⟩), v] w (TyP (ck (lkL fs) ns t []) w)
def MuC (t : Tr) : Prop := ∀ (w : World) (C : Nat) (fv mv nv : Value) (fs : List Fun) (ns : Nm) (k : Nat) (v : Value) (kd : Int), CkS w C fv mv nv ns k → FxS w C fv mv fs → ExAt (Lo C) w t v → Calls Tryz.prog 71 #[.pointer (some ⟨C, 0, none⟩), v, .int .i64 kd] w (MuP (mu (lkL fs) ns t kd) w)
theorem blk_at {C b : Nat} {w w' : World} {o : Obj} (h : w.heap[b]? = some o) (hb : Below w.heap.size w w') : w'.heap[b]? = some o := by
  rw [hb.block b (Array.getElem?_eq_some_iff.1 h).1]; exact h

set_option maxRecDepth 100000 in
set_option maxHeartbeats 2000000 in
theorem must_of {t : Tr} (hn : IsNd t) (h : TyC t) : MuC t := by
  intro w C fv mv nv fs ns k v kd hs hf hx
  obtain ⟨c, a, n, nm, op, l, r, g, rfl⟩ := hn
  have HT : Hid (Calls Tryz.prog 70 #[.pointer (some ⟨C, 0, none⟩), v] w (TyP (ck (lkL fs) ns (nd c a n nm op l r g) []) w)) := h w C fv mv nv fs ns k v hs hf hx
  obtain ⟨b, vl, vr, vg, ys, hb, rfl, hblk, _⟩ := nd_open hx
  have HBk : Hid (w.heap[b]? = some (.cells #[.int .i64 c, .int .i64 a, .int .i64 n, str nm, str op, vl, vr, vg] 134)) := hblk
  have HP : Hid (placeE (nd c a n nm op l r g) = a) := rfl
  have HG0 : Hid (∀ e w', MuP (mu (lkL fs) ns (nd c a n nm op l r g) kd) w e w' → MuP (mu (lkL fs) ns (nd c a n nm op l r g) kd) w e w') := fun _ _ h => h
  generalize hG : MuP (mu (lkL fs) ns (nd c a n nm op l r g) kd) w = G at *
  clear HG0
  have HG0 : Hid (∀ e w', MuP (mu (lkL fs) ns (nd c a n nm op l r g) kd) w e w' → G e w') := fun e w' h => by rw [← hG]; exact h
  generalize nd c a n nm op l r g = t at *
  clear h hs hf hx hblk hG
  go_enter Tryz.func71, Tryz.ntmps71
  go_wp2_with (go_at_call 70; fail)
  refine HT.out.mono ?_
  rintro e w1 ⟨⟨k1, hr, rfl⟩ | ⟨k1, a1, hr, b1, rfl, hb1⟩, hw⟩
  · have HB1 : Hid (Below w.heap.size w w1) := hw
    have hblk1 := blk_at (C := C) HBk.out hw
    have c1 := cell_at (i := 1) hblk1 rfl
    have HR : Hid (ck (lkL fs) ns t [] = .ok k1) := hr
    by_cases hk : k1 = kd
    · subst hk
      clear hw hblk1 hr c1
      go_wp2
      go_end0
      refine HG0.out _ _ ⟨.inl ⟨?_, rfl⟩, HB1.out⟩
      unfold mu isT
      rw [HR.out]
      show (if k1 = k1 then _ else _) = _
      rw [if_pos rfl]
    · have hk' : ((k1 : Int) == kd) = false := by simpa using hk
      clear hw hblk1 hr
      go_wp2_with (go_at_call 37; fail)
      refine (throw_any 1 a w1).mono ?_
      rintro e w2 ⟨⟨b2, rfl, hb2⟩, hw2⟩
      refine ⟨rfl, HG0.out _ _ ⟨.inr ⟨1, a, ?_, b2, rfl, hb2⟩, HB1.out.trans (hw2.mono HB1.out.size)⟩⟩
      unfold mu isT
      rw [HR.out, HP.out]
      show (if k1 = kd then _ else _) = _
      rw [if_neg hk]
  · refine ⟨rfl, HG0.out _ _ ⟨.inr ⟨k1, a1, ?_, b1, rfl, hb1⟩, hw⟩⟩
    unfold mu
    rw [hr]
    rfl
end Go.Proofs.YtpakgaegckkmnaaGreatDoor

namespace Go.Proofs.YtpakgaegckkmnaaGreatDoor
set_option linter.unusedVariables false
set_option linter.unusedSimpArgs false
open Go Go.RowKit

theorem bx_assoc {α β γ : Type} (x : X α) (f : α → X β) (g : β → X γ) : bx (bx x f) g = bx x fun a => bx (f a) g := by cases x <;> rfl
theorem ck_1 (lk : By → Option Nm) (ns : Nm) (a n : Int) (nm op : By) (l r g : Tr) : ck lk ns (nd 1 a n nm op l r g) [] = .ok 1 := by
  rw [ck]
  simp [mu, bx_assoc]
theorem ck_9 (lk : By → Option Nm) (ns : Nm) (a n : Int) (nm op : By) (l r g : Tr) : ck lk ns (nd 9 a n nm op l r g) [] = .ok 1 := by
  rw [ck]
  simp [mu, bx_assoc]
theorem ck_3 (lk : By → Option Nm) (ns : Nm) (a n : Int) (nm op : By) (l r g : Tr) : ck lk ns (nd 3 a n nm op l r g) [] = bx (mu lk ns l 1) fun _ => bx (mu lk ns r 1) fun _ => .ok 1 := by
  rw [ck]
  simp [mu, bx_assoc]
theorem ck_4 (lk : By → Option Nm) (ns : Nm) (a n : Int) (nm op : By) (l r g : Tr) : ck lk ns (nd 4 a n nm op l r g) [] = bx (mu lk ns l 1) fun _ => .ok 1 := by
  rw [ck]
  simp [mu, bx_assoc]
theorem ck_6 (lk : By → Option Nm) (ns : Nm) (a n : Int) (nm op : By) (l r g : Tr) : ck lk ns (nd 6 a n nm op l r g) [] = bx (mu lk ns l 1) fun _ => .ok 2 := by
  rw [ck]
  simp [mu, bx_assoc]
theorem ck_7 (lk : By → Option Nm) (ns : Nm) (a n : Int) (nm op : By) (l r g : Tr) : ck lk ns (nd 7 a n nm op l r g) [] = bx (mu lk ns l 2) fun _ => .ok 1 := by
  rw [ck]
  simp [mu, bx_assoc]
theorem ck_8 (lk : By → Option Nm) (ns : Nm) (a n : Int) (nm op : By) (l r g : Tr) : ck lk ns (nd 8 a n nm op l r g) [] = bx (mu lk ns l 2) fun _ => bx (mu lk ns r 1) fun _ => .ok 1 := by
  rw [ck]
  simp [mu, bx_assoc]
theorem ck_2 (lk : By → Option Nm) (ns : Nm) (a n : Int) (nm op : By) (l r g : Tr) : ck lk ns (nd 2 a n nm op l r g) [] = (match fndN ns nm with | some k => .ok k | none => .error (7, a)) := by
  rw [ck]
  simp <;> (cases fndN ns nm <;> rfl)
set_option maxRecDepth 100000 in
set_option maxHeartbeats 2000000 in
theorem ty_num {a n : Int} {nm op : By} {l r g : Tr} : TyC (nd 1 a n nm op l r g) := by
  intro w C fv mv nv fs ns k v hs hf hx
  obtain ⟨b, vl, vr, vg, ys, hb, rfl, hblk, hxl, hxr, hrow, hro, hxg⟩ := nd_open hx
  have c0 := cell_at (i := 0) hblk rfl
  have HBk : Hid (w.heap[b]? = some (.cells #[.int .i64 1, .int .i64 a, .int .i64 n, str nm, str op, vl, vr, vg] 134)) := hblk
  have HS : Hid (CkS w C fv mv nv ns k) := hs
  have HF : Hid (FxS w C fv mv fs) := hf
  have HXl : Hid (ExAt (Lo C) w l vl) := hxl
  have HXr : Hid (ExAt (Lo C) w r vr) := hxr
  have HG0 : Hid (∀ e w', TyP (ck (lkL fs) ns (nd 1 a n nm op l r g) []) w e w' → TyP (ck (lkL fs) ns (nd 1 a n nm op l r g) []) w e w') := fun _ _ h => h
  generalize hG : TyP (ck (lkL fs) ns (nd 1 a n nm op l r g) []) w = G at *
  clear HG0
  have HG0 : Hid (∀ e w', TyP (ck (lkL fs) ns (nd 1 a n nm op l r g) []) w e w' → G e w') := fun e w' h => by rw [← hG]; exact h
  clear hs hf hx hblk hxl hxr hrow hro hxg hG
  go_enter Tryz.func70, Tryz.ntmps70
  go_wp2
  exact HG0.out _ _ ⟨.inl ⟨1, ck_1 _ _ _ _ _ _ _ _ _, rfl⟩, Below.refl _ _⟩
set_option maxRecDepth 100000 in
set_option maxHeartbeats 2000000 in
theorem ty_input {a n : Int} {nm op : By} {l r g : Tr} : TyC (nd 9 a n nm op l r g) := by
  intro w C fv mv nv fs ns k v hs hf hx
  obtain ⟨b, vl, vr, vg, ys, hb, rfl, hblk, hxl, hxr, hrow, hro, hxg⟩ := nd_open hx
  have c0 := cell_at (i := 0) hblk rfl
  have HBk : Hid (w.heap[b]? = some (.cells #[.int .i64 9, .int .i64 a, .int .i64 n, str nm, str op, vl, vr, vg] 134)) := hblk
  have HS : Hid (CkS w C fv mv nv ns k) := hs
  have HF : Hid (FxS w C fv mv fs) := hf
  have HXl : Hid (ExAt (Lo C) w l vl) := hxl
  have HXr : Hid (ExAt (Lo C) w r vr) := hxr
  have HG0 : Hid (∀ e w', TyP (ck (lkL fs) ns (nd 9 a n nm op l r g) []) w e w' → TyP (ck (lkL fs) ns (nd 9 a n nm op l r g) []) w e w') := fun _ _ h => h
  generalize hG : TyP (ck (lkL fs) ns (nd 9 a n nm op l r g) []) w = G at *
  clear HG0
  have HG0 : Hid (∀ e w', TyP (ck (lkL fs) ns (nd 9 a n nm op l r g) []) w e w' → G e w') := fun e w' h => by rw [← hG]; exact h
  clear hs hf hx hblk hxl hxr hrow hro hxg hG
  go_enter Tryz.func70, Tryz.ntmps70
  go_wp2
  exact HG0.out _ _ ⟨.inl ⟨1, ck_9 _ _ _ _ _ _ _ _ _, rfl⟩, Below.refl _ _⟩
set_option maxRecDepth 100000 in
set_option maxHeartbeats 2000000 in
theorem ty_name {a n : Int} {nm op : By} {l r g : Tr} : TyC (nd 2 a n nm op l r g) := by
  intro w C fv mv nv fs ns k v hs hf hx
  obtain ⟨b, vl, vr, vg, ys, hb, rfl, hblk, hxl, hxr, hrow, hro, hxg⟩ := nd_open hx
  have c0 := cell_at (i := 0) hblk rfl
  have HBk : Hid (w.heap[b]? = some (.cells #[.int .i64 2, .int .i64 a, .int .i64 n, str nm, str op, vl, vr, vg] 134)) := hblk
  have HS : Hid (CkS w C fv mv nv ns k) := hs
  have HF : Hid (FxS w C fv mv fs) := hf
  have HXl : Hid (ExAt (Lo C) w l vl) := hxl
  have HXr : Hid (ExAt (Lo C) w r vr) := hxr
  obtain ⟨y, hy, hyt⟩ := str_y nm
  have HY : Hid (y.data.toList = nm) := hyt
  have c3 : w.cell? ⟨b, 3, none⟩ = some (.string y) := by rw [← hy]; exact cell_at (i := 3) hblk rfl
  have c1 := cell_at (i := 1) hblk rfl
  have HSd : Hid (CkS w.drew C fv mv nv ns k) := hs.below (Below.refl _ _).drew
  have HBd : Hid (∀ w', Below w.drew.heap.size w.drew w' → Below w.heap.size w w') := fun w' h => (Below.refl _ _).drew.trans h
  have HG0 : Hid (∀ e w', TyP (ck (lkL fs) ns (nd 2 a n nm op l r g) []) w e w' → TyP (ck (lkL fs) ns (nd 2 a n nm op l r g) []) w e w') := fun _ _ h => h
  generalize hG : TyP (ck (lkL fs) ns (nd 2 a n nm op l r g) []) w = G at *
  clear HG0
  have HG0 : Hid (∀ e w', TyP (ck (lkL fs) ns (nd 2 a n nm op l r g) []) w e w' → G e w') := fun e w' h => by rw [← hG]; exact h
  clear hy hyt
  clear hs hf hx hblk hxl hxr hrow hro hxg hG
  go_enter Tryz.func70, Tryz.ntmps70
  go_wp2_with fail
  go_region_with (go_at_call 72; refine (variable_any HSd.out y a).mono ?_; rintro e w1 ⟨⟨t, hr, rfl⟩ | ⟨hr, b1, rfl, hb1⟩, hw⟩; rotate_left; exact (by refine ⟨rfl, HG0.out _ _ ⟨.inr ⟨7, a, ?_, b1, rfl, hb1⟩, HBd.out _ hw⟩⟩; rw [ck_2, ← HY.out, hr]); have HB1 : Hid (Below w.heap.size w w1) := HBd.out _ hw; have HR : Hid (fndN ns y.data.toList = some t) := hr; clear hw hr)
  all_goals
    go_wp2
    go_ret
    refine HG0.out _ _ ⟨.inl ⟨t, ?_, rfl⟩, HB1.out⟩
    rw [ck_2, ← HY.out, HR.out]
set_option maxRecDepth 100000 in
set_option maxHeartbeats 2000000 in
theorem ty_un {a n : Int} {nm op : By} {l r g : Tr} (IL : MuC l) : TyC (nd 4 a n nm op l r g) := by
  intro w C fv mv nv fs ns k v hs hf hx
  obtain ⟨b, vl, vr, vg, ys, hb, rfl, hblk, hxl, hxr, hrow, hro, hxg⟩ := nd_open hx
  have c0 := cell_at (i := 0) hblk rfl
  have HBk : Hid (w.heap[b]? = some (.cells #[.int .i64 4, .int .i64 a, .int .i64 n, str nm, str op, vl, vr, vg] 134)) := hblk
  have HS : Hid (CkS w C fv mv nv ns k) := hs
  have HF : Hid (FxS w C fv mv fs) := hf
  have HXl : Hid (ExAt (Lo C) w l vl) := hxl
  have HXr : Hid (ExAt (Lo C) w r vr) := hxr
  have c5 := cell_at (i := 5) hblk rfl
  have HG0 : Hid (∀ e w', TyP (ck (lkL fs) ns (nd 4 a n nm op l r g) []) w e w' → TyP (ck (lkL fs) ns (nd 4 a n nm op l r g) []) w e w') := fun _ _ h => h
  generalize hG : TyP (ck (lkL fs) ns (nd 4 a n nm op l r g) []) w = G at *
  clear HG0
  have HG0 : Hid (∀ e w', TyP (ck (lkL fs) ns (nd 4 a n nm op l r g) []) w e w' → G e w') := fun e w' h => by rw [← hG]; exact h
  clear hs hf hx hblk hxl hxr hrow hro hxg hG
  go_enter Tryz.func70, Tryz.ntmps70
  go_wp2_with (go_at_call 71; fail)
  refine (IL w C fv mv nv fs ns k vl 1 HS.out HF.out HXl.out).mono ?_
  rintro e w1 ⟨⟨hr, rfl⟩ | ⟨k1, a1, hr, b1, rfl, hb1⟩, hw⟩
  · have HB1 : Hid (Below w.heap.size w w1) := hw
    have HR : Hid (mu (lkL fs) ns l 1 = .ok ()) := hr
    clear hw hr
    go_wp2
    refine HG0.out _ _ ⟨.inl ⟨1, ?_, rfl⟩, HB1.out⟩
    rw [ck_4, HR.out]
    rfl
  · refine ⟨rfl, HG0.out _ _ ⟨.inr ⟨k1, a1, ?_, b1, rfl, hb1⟩, hw⟩⟩
    rw [ck_4, hr]
    rfl
set_option maxRecDepth 100000 in
set_option maxHeartbeats 2000000 in
theorem ty_new {a n : Int} {nm op : By} {l r g : Tr} (IL : MuC l) : TyC (nd 6 a n nm op l r g) := by
  intro w C fv mv nv fs ns k v hs hf hx
  obtain ⟨b, vl, vr, vg, ys, hb, rfl, hblk, hxl, hxr, hrow, hro, hxg⟩ := nd_open hx
  have c0 := cell_at (i := 0) hblk rfl
  have HBk : Hid (w.heap[b]? = some (.cells #[.int .i64 6, .int .i64 a, .int .i64 n, str nm, str op, vl, vr, vg] 134)) := hblk
  have HS : Hid (CkS w C fv mv nv ns k) := hs
  have HF : Hid (FxS w C fv mv fs) := hf
  have HXl : Hid (ExAt (Lo C) w l vl) := hxl
  have HXr : Hid (ExAt (Lo C) w r vr) := hxr
  have c5 := cell_at (i := 5) hblk rfl
  have HG0 : Hid (∀ e w', TyP (ck (lkL fs) ns (nd 6 a n nm op l r g) []) w e w' → TyP (ck (lkL fs) ns (nd 6 a n nm op l r g) []) w e w') := fun _ _ h => h
  generalize hG : TyP (ck (lkL fs) ns (nd 6 a n nm op l r g) []) w = G at *
  clear HG0
  have HG0 : Hid (∀ e w', TyP (ck (lkL fs) ns (nd 6 a n nm op l r g) []) w e w' → G e w') := fun e w' h => by rw [← hG]; exact h
  clear hs hf hx hblk hxl hxr hrow hro hxg hG
  go_enter Tryz.func70, Tryz.ntmps70
  go_wp2_with (go_at_call 71; fail)
  refine (IL w C fv mv nv fs ns k vl 1 HS.out HF.out HXl.out).mono ?_
  rintro e w1 ⟨⟨hr, rfl⟩ | ⟨k1, a1, hr, b1, rfl, hb1⟩, hw⟩
  · have HB1 : Hid (Below w.heap.size w w1) := hw
    have HR : Hid (mu (lkL fs) ns l 1 = .ok ()) := hr
    clear hw hr
    go_wp2
    refine HG0.out _ _ ⟨.inl ⟨2, ?_, rfl⟩, HB1.out⟩
    rw [ck_6, HR.out]
    rfl
  · refine ⟨rfl, HG0.out _ _ ⟨.inr ⟨k1, a1, ?_, b1, rfl, hb1⟩, hw⟩⟩
    rw [ck_6, hr]
    rfl
set_option maxRecDepth 100000 in
set_option maxHeartbeats 2000000 in
theorem ty_len {a n : Int} {nm op : By} {l r g : Tr} (IL : MuC l) : TyC (nd 7 a n nm op l r g) := by
  intro w C fv mv nv fs ns k v hs hf hx
  obtain ⟨b, vl, vr, vg, ys, hb, rfl, hblk, hxl, hxr, hrow, hro, hxg⟩ := nd_open hx
  have c0 := cell_at (i := 0) hblk rfl
  have HBk : Hid (w.heap[b]? = some (.cells #[.int .i64 7, .int .i64 a, .int .i64 n, str nm, str op, vl, vr, vg] 134)) := hblk
  have HS : Hid (CkS w C fv mv nv ns k) := hs
  have HF : Hid (FxS w C fv mv fs) := hf
  have HXl : Hid (ExAt (Lo C) w l vl) := hxl
  have HXr : Hid (ExAt (Lo C) w r vr) := hxr
  have c5 := cell_at (i := 5) hblk rfl
  have HG0 : Hid (∀ e w', TyP (ck (lkL fs) ns (nd 7 a n nm op l r g) []) w e w' → TyP (ck (lkL fs) ns (nd 7 a n nm op l r g) []) w e w') := fun _ _ h => h
  generalize hG : TyP (ck (lkL fs) ns (nd 7 a n nm op l r g) []) w = G at *
  clear HG0
  have HG0 : Hid (∀ e w', TyP (ck (lkL fs) ns (nd 7 a n nm op l r g) []) w e w' → G e w') := fun e w' h => by rw [← hG]; exact h
  clear hs hf hx hblk hxl hxr hrow hro hxg hG
  go_enter Tryz.func70, Tryz.ntmps70
  go_wp2_with (go_at_call 71; fail)
  refine (IL w C fv mv nv fs ns k vl 2 HS.out HF.out HXl.out).mono ?_
  rintro e w1 ⟨⟨hr, rfl⟩ | ⟨k1, a1, hr, b1, rfl, hb1⟩, hw⟩
  · have HB1 : Hid (Below w.heap.size w w1) := hw
    have HR : Hid (mu (lkL fs) ns l 2 = .ok ()) := hr
    clear hw hr
    go_wp2
    refine HG0.out _ _ ⟨.inl ⟨1, ?_, rfl⟩, HB1.out⟩
    rw [ck_7, HR.out]
    rfl
  · refine ⟨rfl, HG0.out _ _ ⟨.inr ⟨k1, a1, ?_, b1, rfl, hb1⟩, hw⟩⟩
    rw [ck_7, hr]
    rfl
set_option maxRecDepth 100000 in
set_option maxHeartbeats 2000000 in
theorem ty_bin {a n : Int} {nm op : By} {l r g : Tr} (IL : MuC l) (IR : MuC r) : TyC (nd 3 a n nm op l r g) := by
  intro w C fv mv nv fs ns k v hs hf hx
  obtain ⟨b, vl, vr, vg, ys, hb, rfl, hblk, hxl, hxr, hrow, hro, hxg⟩ := nd_open hx
  have c0 := cell_at (i := 0) hblk rfl
  have HBk : Hid (w.heap[b]? = some (.cells #[.int .i64 3, .int .i64 a, .int .i64 n, str nm, str op, vl, vr, vg] 134)) := hblk
  have HS : Hid (CkS w C fv mv nv ns k) := hs
  have HF : Hid (FxS w C fv mv fs) := hf
  have HXl : Hid (ExAt (Lo C) w l vl) := hxl
  have HXr : Hid (ExAt (Lo C) w r vr) := hxr
  have c5 := cell_at (i := 5) hblk rfl
  have HG0 : Hid (∀ e w', TyP (ck (lkL fs) ns (nd 3 a n nm op l r g) []) w e w' → TyP (ck (lkL fs) ns (nd 3 a n nm op l r g) []) w e w') := fun _ _ h => h
  generalize hG : TyP (ck (lkL fs) ns (nd 3 a n nm op l r g) []) w = G at *
  clear HG0
  have HG0 : Hid (∀ e w', TyP (ck (lkL fs) ns (nd 3 a n nm op l r g) []) w e w' → G e w') := fun e w' h => by rw [← hG]; exact h
  clear hs hf hx hblk hxl hxr hrow hro hxg hG
  go_enter Tryz.func70, Tryz.ntmps70
  go_wp2_with (go_at_call 71; fail)
  refine (IL w C fv mv nv fs ns k vl 1 HS.out HF.out HXl.out).mono ?_
  rintro e w1 ⟨⟨hr, rfl⟩ | ⟨k1, a1, hr, b1, rfl, hb1⟩, hw⟩
  · have HB1 : Hid (Below w.heap.size w w1) := hw
    have HR : Hid (mu (lkL fs) ns l 1 = .ok ()) := hr
    have hlo := hw.mono (Nat.le_of_lt HS.out.lt)
    have HS1 : Hid (CkS w1 C fv mv nv ns k) := HS.out.below hw
    have HF1 : Hid (FxS w1 C fv mv fs) := HF.out.below hlo
    have HX1 : Hid (ExAt (Lo C) w1 r vr) := (lo_keeps hlo).ex HXr.out
    have c6 := cell_at (i := 6) (blk_at (C := C) HBk.out hw) rfl
    clear hw hr hlo
    go_wp2_with (go_at_call 71; fail)
    refine (IR w1 C fv mv nv fs ns k vr 1 HS1.out HF1.out HX1.out).mono ?_
    rintro e w2 ⟨⟨hr, rfl⟩ | ⟨k1, a1, hr, b1, rfl, hb1⟩, hw⟩
    · have HB2 : Hid (Below w.heap.size w w2) := HB1.out.trans (hw.mono HB1.out.size)
      have HR2 : Hid (mu (lkL fs) ns r 1 = .ok ()) := hr
      clear hw hr
      go_wp2
      refine HG0.out _ _ ⟨.inl ⟨1, ?_, rfl⟩, HB2.out⟩
      rw [ck_3, HR.out]
      show bx (mu (lkL fs) ns r 1) _ = _
      rw [HR2.out]
      rfl
    · refine ⟨rfl, HG0.out _ _ ⟨.inr ⟨k1, a1, ?_, b1, rfl, hb1⟩, HB1.out.trans (hw.mono HB1.out.size)⟩⟩
      rw [ck_3, HR.out]
      show bx (mu (lkL fs) ns r 1) _ = _
      rw [hr]
      rfl
  · refine ⟨rfl, HG0.out _ _ ⟨.inr ⟨k1, a1, ?_, b1, rfl, hb1⟩, hw⟩⟩
    rw [ck_3, hr]
    rfl
set_option maxRecDepth 100000 in
set_option maxHeartbeats 2000000 in
theorem ty_item {a n : Int} {nm op : By} {l r g : Tr} (IL : MuC l) (IR : MuC r) : TyC (nd 8 a n nm op l r g) := by
  intro w C fv mv nv fs ns k v hs hf hx
  obtain ⟨b, vl, vr, vg, ys, hb, rfl, hblk, hxl, hxr, hrow, hro, hxg⟩ := nd_open hx
  have c0 := cell_at (i := 0) hblk rfl
  have HBk : Hid (w.heap[b]? = some (.cells #[.int .i64 8, .int .i64 a, .int .i64 n, str nm, str op, vl, vr, vg] 134)) := hblk
  have HS : Hid (CkS w C fv mv nv ns k) := hs
  have HF : Hid (FxS w C fv mv fs) := hf
  have HXl : Hid (ExAt (Lo C) w l vl) := hxl
  have HXr : Hid (ExAt (Lo C) w r vr) := hxr
  have c5 := cell_at (i := 5) hblk rfl
  have HG0 : Hid (∀ e w', TyP (ck (lkL fs) ns (nd 8 a n nm op l r g) []) w e w' → TyP (ck (lkL fs) ns (nd 8 a n nm op l r g) []) w e w') := fun _ _ h => h
  generalize hG : TyP (ck (lkL fs) ns (nd 8 a n nm op l r g) []) w = G at *
  clear HG0
  have HG0 : Hid (∀ e w', TyP (ck (lkL fs) ns (nd 8 a n nm op l r g) []) w e w' → G e w') := fun e w' h => by rw [← hG]; exact h
  clear hs hf hx hblk hxl hxr hrow hro hxg hG
  go_enter Tryz.func70, Tryz.ntmps70
  go_wp2_with (go_at_call 71; fail)
  refine (IL w C fv mv nv fs ns k vl 2 HS.out HF.out HXl.out).mono ?_
  rintro e w1 ⟨⟨hr, rfl⟩ | ⟨k1, a1, hr, b1, rfl, hb1⟩, hw⟩
  · have HB1 : Hid (Below w.heap.size w w1) := hw
    have HR : Hid (mu (lkL fs) ns l 2 = .ok ()) := hr
    have hlo := hw.mono (Nat.le_of_lt HS.out.lt)
    have HS1 : Hid (CkS w1 C fv mv nv ns k) := HS.out.below hw
    have HF1 : Hid (FxS w1 C fv mv fs) := HF.out.below hlo
    have HX1 : Hid (ExAt (Lo C) w1 r vr) := (lo_keeps hlo).ex HXr.out
    have c6 := cell_at (i := 6) (blk_at (C := C) HBk.out hw) rfl
    clear hw hr hlo
    go_wp2_with (go_at_call 71; fail)
    refine (IR w1 C fv mv nv fs ns k vr 1 HS1.out HF1.out HX1.out).mono ?_
    rintro e w2 ⟨⟨hr, rfl⟩ | ⟨k1, a1, hr, b1, rfl, hb1⟩, hw⟩
    · have HB2 : Hid (Below w.heap.size w w2) := HB1.out.trans (hw.mono HB1.out.size)
      have HR2 : Hid (mu (lkL fs) ns r 1 = .ok ()) := hr
      clear hw hr
      go_wp2
      refine HG0.out _ _ ⟨.inl ⟨1, ?_, rfl⟩, HB2.out⟩
      rw [ck_8, HR.out]
      show bx (mu (lkL fs) ns r 1) _ = _
      rw [HR2.out]
      rfl
    · refine ⟨rfl, HG0.out _ _ ⟨.inr ⟨k1, a1, ?_, b1, rfl, hb1⟩, HB1.out.trans (hw.mono HB1.out.size)⟩⟩
      rw [ck_8, HR.out]
      show bx (mu (lkL fs) ns r 1) _ = _
      rw [hr]
      rfl
  · refine ⟨rfl, HG0.out _ _ ⟨.inr ⟨k1, a1, ?_, b1, rfl, hb1⟩, hw⟩⟩
    rw [ck_8, hr]
    rfl
end Go.Proofs.YtpakgaegckkmnaaGreatDoor

namespace Go.Proofs.YtpakgaegckkmnaaGreatDoor
set_option linter.unusedVariables false
set_option linter.unusedSimpArgs false
open Go Go.RowKit

theorem ixf_lk (nm : By) : ∀ (fs : List Fun), (∃ (i : Nat) (F : Fun), ixF nm fs = some i ∧ fs[i]? = some F ∧ i < fs.length ∧ lkL fs nm = some F.ps) ∨ (ixF nm fs = none ∧ lkL fs nm = none)
  | [] => .inr ⟨rfl, rfl⟩
  | G :: fs => by
    unfold lkL
    rw [ixF, List.find?_cons]
    by_cases h : G.nm = nm
    · have : (G.nm == nm) = true := by simpa using h
      rw [if_pos h, this]
      exact .inl ⟨0, G, rfl, rfl, by simp, rfl⟩
    · have : (G.nm == nm) = false := by simpa using h
      rw [if_neg h, this]
      rcases ixf_lk nm fs with ⟨i, x, h1, h2, h3, h4⟩ | ⟨h1, h2⟩
      · exact .inl ⟨i + 1, x, by rw [h1]; rfl, by simpa using h2, by simpa using h3, h4⟩
      · exact .inr ⟨by rw [h1]; rfl, h2⟩
theorem ck_5 (lk : By → Option Nm) (ns : Nm) (a n : Int) (nm op : By) (l r g : Tr) : ck lk ns (nd 5 a n nm op l r g) [] = (match lk nm with | none => .error (7, a) | some ps => if chl g ≠ ps.length then .error (2, a) else bx (ck lk ns g ps) fun _ => .ok 1) := by
  rw [ck]
  simp <;> (cases lk nm <;> simp)
theorem ck_cc (lk : By → Option Nm) (ns : Nm) (x : Tr) (xs : List Tr) (p : By × Int) (ps : Nm) : ck lk ns (chain (x :: xs)) (p :: ps) = bx (mu lk ns x p.2) fun _ => ck lk ns (chain xs) ps := by
  show ck lk ns (.slice [x] [chain xs]) (p :: ps) = _
  rw [ck]
  simp [mu, bx_assoc]
theorem ck_end (lk : By → Option Nm) (ns : Nm) : ck lk ns (chain []) [] = .ok 0 := by
  show ck lk ns (.slice [] []) [] = _
  rw [ck]
  all_goals simp
/-- A call, looked at. -/
def cv (lk : By → Option Nm) (ns : Nm) (t : Tr) : X Unit := bx (ck lk ns t []) fun _ => .ok ()

set_option maxRecDepth 100000 in
set_option maxHeartbeats 4000000 in
theorem call_any {a n : Int} {nm op : By} {l r : Tr} {xs : List Tr} (IH : ∀ x ∈ xs, MuC x ∧ IsNd x) (hnm : nm.length ≤ 12) (hxs : xs.length ≤ 1000000) (w : World) (C : Nat) (fv mv nv : Value) (fs : List Fun) (ns : Nm) (k : Nat) (v : Value) (hs : CkS w C fv mv nv ns k) (hf : FxS w C fv mv fs) (hx : ExAt (Lo C) w (nd 5 a n nm op l r (chain xs)) v) :
    Calls Tryz.prog 83 #[.pointer (some ⟨C, 0, none⟩), v] w (MuP (cv (lkL fs) ns (nd 5 a n nm op l r (chain xs))) w) := by
  obtain ⟨b, vl, vr, vg, ys, hb, rfl, hblk, hxl, hxr, hrow, hro, hxg⟩ := nd_open hx
  obtain ⟨xs', hch, hlen, hat⟩ := chain_open ys _ hxg
  have := chain_inj hch
  subst this
  obtain ⟨qg, cg, rfl⟩ := own_slice hrow
  obtain ⟨y, hy, hyt⟩ := str_y nm
  have hysz : y.size ≤ 1000000 := by rw [← j_len, hyt]; omega
  have c3 : w.cell? ⟨b, 3, none⟩ = some (.string y) := by rw [← hy]; exact cell_at (i := 3) hblk rfl
  have c1 := cell_at (i := 1) hblk rfl
  have c7 := cell_at (i := 7) hblk rfl
  have d0 := cell_at (i := 0) hs.blk rfl
  have d1 := cell_at (i := 1) hs.blk rfl
  have hlk := hf.look w.drew (Below.refl _ _).drew y hysz
  rw [hyt] at hlk
  have HS : Hid (CkS w C fv mv nv ns k) := hs
  have HF : Hid (FxS w C fv mv fs) := hf
  have HIH : Hid (∀ x ∈ xs, MuC x ∧ IsNd x) := IH
  have HAt : Hid (∀ (i : Nat) (x : Tr) (y : Value), xs[i]? = some x → ys[i]? = some y → ExAt (Lo C) w x y) := hat
  have HRow : Hid (w.ownsRow 0 84 1 (.slice qg ys.length cg) ys.length ys) := hrow
  have HLo : Hid (∀ i, (Value.slice qg ys.length cg).ownBlock = some i → Lo C i) := hro
  have HLn : Hid (xs.length = ys.length) := hlen
  have HCK : Hid (cv (lkL fs) ns (nd 5 a n nm op l r (chain xs)) = (match lkL fs nm with | none => .error (7, a) | some ps => if xs.length ≠ ps.length then .error (2, a) else bx (ck (lkL fs) ns (chain xs) ps) fun _ => .ok ())) := by
    show _ = _
    unfold cv
    rw [ck_5, chl_chain]
    cases lkL fs nm with
    | none => rfl
    | some ps =>
      show bx (if xs.length ≠ ps.length then _ else _) _ = if xs.length ≠ ps.length then _ else _
      split
      · rfl
      · rw [bx_assoc]
        rfl
  have HG0 : Hid (∀ e w', MuP (cv (lkL fs) ns (nd 5 a n nm op l r (chain xs))) w e w' → MuP (cv (lkL fs) ns (nd 5 a n nm op l r (chain xs))) w e w') := fun _ _ h => h
  generalize hG : MuP (cv (lkL fs) ns (nd 5 a n nm op l r (chain xs))) w = G at *
  clear HG0
  have HG0 : Hid (∀ e w', MuP (cv (lkL fs) ns (nd 5 a n nm op l r (chain xs))) w e w' → G e w') := fun e w' h => by rw [← hG]; exact h
  generalize cv (lkL fs) ns (nd 5 a n nm op l r (chain xs)) = R0 at *
  clear IH hs hf hx hblk hxl hxr hrow hro hxg hG hch hat hy hyt hysz hlen
  rcases ixf_lk nm fs with ⟨i, F, e1, e2, e3, e4⟩ | ⟨e1, e2⟩
  · rw [e1] at hlk
    have hlk' : (Instr.lookup 63 mv (.string y) true).run Tryz.prog w.drew = .ok (.tuple #[.int .i64 (i : Int), .bool true]) w.drew := hlk
    clear hlk
    obtain ⟨fg, fc, vp, hfv, q2, hpr, hpl⟩ := HF.out.par w (Below.refl _ _) i F e2
    obtain ⟨qp, cp, rfl⟩ := own_slice hpr
    have HPr : Hid (w.ownsRow 0 83 2 (.slice qp F.ps.length cp) F.ps.length (psC F.ps)) := hpr
    have hfew := HF.out.few
    have HR1 : Hid (R0 = if xs.length ≠ F.ps.length then .error (2, a) else bx (ck (lkL fs) ns (chain xs) F.ps) fun _ => .ok ()) := by
      show _ = _
      rw [HCK.out, e4]
    rw [hfv] at d0
    obtain ⟨nf, hnf⟩ : ∃ nf, nf = fs.length := ⟨_, rfl⟩
    rw [← hnf] at d0 e3 hfew
    obtain ⟨np, hnp⟩ : ∃ np, np = F.ps.length := ⟨_, rfl⟩
    have HNp : Hid (np = F.ps.length) := hnp
    rw [← hnp] at HPr HR1 q2 hpl
    obtain ⟨m, hm⟩ : ∃ m, m = ys.length := ⟨_, rfl⟩
    have HM : Hid (m = ys.length) := hm
    rw [← hm] at HRow HLo HLn c7
    rw [HLn.out] at HR1 hxs
    clear e1 e2 e4 hfv hpr hnf hnp hm HCK
    by_cases hmp : m = np
    · subst hmp
      have HR2 : Hid (R0 = bx (ck (lkL fs) ns (chain xs) F.ps) fun _ => .ok ()) := by
        show _ = _
        rw [HR1.out, if_neg (by simp)]
      clear HR1
      go_enter Tryz.func83, Tryz.ntmps83
      go_wp2_with fail
      go_region
      all_goals
        go_wp2_with fail
        go_loopw [54] (fun v wr => ∃ j : Nat, j ≤ m ∧ v = .int .i64 j ∧ Hid (ck (lkL fs) ns (chain xs) F.ps = ck (lkL fs) ns (chain (xs.drop j)) (F.ps.drop j)) ∧ Hid (Below w.heap.size w wr)) (fun v _ => m - (intOf v).toNat)
        case atStart => exact ⟨0, Nat.zero_le _, rfl, by show _ = _; simp, (Below.refl _ _).drew⟩
        case round =>
          obtain ⟨j, hj, rfl, HI, HB⟩ := hrel
          by_cases hlt : j < m
          · obtain ⟨x, hxj⟩ : ∃ x, xs[j]? = some x := ⟨xs[j]'(by have := HLn.out; omega), List.getElem?_eq_getElem (by have := HLn.out; omega)⟩
            obtain ⟨p, hpj⟩ : ∃ p, F.ps[j]? = some p := ⟨F.ps[j]'(by have := HNp.out; omega), List.getElem?_eq_getElem (by have := HNp.out; omega)⟩
            obtain ⟨yv, hyj⟩ : ∃ yv, ys[j]? = some yv := ⟨ys[j]'(by have := HM.out; omega), List.getElem?_eq_getElem (by have := HM.out; omega)⟩
            have hex := HAt.out j x yv hxj hyj
            obtain ⟨hmu, hnd⟩ := HIH.out x (List.mem_of_getElem? hxj)
            obtain ⟨yb, rfl⟩ := IsNd.ptr hnd hex
            obtain ⟨gq, capq, eq1, -, -⟩ := HRow.out.form (by omega)
            injection eq1 with eq1 eq2 eq3
            subst eq1
            clear eq2 eq3
            obtain ⟨gp, capp, ep1, -, -⟩ := HPr.out.form (by omega)
            injection ep1 with ep1 ep2 ep3
            subst ep1
            clear ep2 ep3
            have q0 : wr.cell? ⟨gq, j, none⟩ = some (.pointer (some ⟨yb, 0, none⟩)) := by
              have := (HRow.out.kept (grown_none HB.out) (.inr (by simp [Value.ownBlock]))).cells (g := gq) rfl j _ hyj
              rw [add_plain'] at this
              exact this
            have q1 : wr.cell? ⟨gp, j * 2 + 1, none⟩ = some (.int .i64 p.2) := by
              have := (HPr.out.kept (grown_none HB.out) (.inr (by simp [Value.ownBlock]))).cells (g := gp) rfl (j * 2 + 1) _ (psC_get F.ps j p hpj).2
              rw [add_plain'] at this
              exact this
            have hloC := HB.out.mono (Nat.le_of_lt HS.out.lt)
            have HMu : Hid (Calls Tryz.prog 71 #[.pointer (some ⟨C, 0, none⟩), .pointer (some ⟨yb, 0, none⟩), .int .i64 p.2] wr (MuP (mu (lkL fs) ns x p.2) wr)) := hmu wr C fv mv nv fs ns k _ p.2 (HS.out.below HB.out) (HF.out.below hloC) ((lo_keeps hloC).ex hex)
            have HSt : Hid (ck (lkL fs) ns (chain (xs.drop j)) (F.ps.drop j) = bx (mu (lkL fs) ns x p.2) fun _ => ck (lkL fs) ns (chain (xs.drop (j + 1))) (F.ps.drop (j + 1))) := by
              show _ = _
              have e1 : xs.drop j = x :: xs.drop (j + 1) := by
                rw [List.drop_eq_getElem_cons (by have := HLn.out; omega)]
                congr 1
                have := List.getElem?_eq_getElem (l := xs) (i := j) (by have := HLn.out; omega)
                rw [hxj] at this
                exact (Option.some.inj this).symm
              have e2 : F.ps.drop j = p :: F.ps.drop (j + 1) := by
                rw [List.drop_eq_getElem_cons (by have := HNp.out; omega)]
                congr 1
                have := List.getElem?_eq_getElem (l := F.ps) (i := j) (by have := HNp.out; omega)
                rw [hpj] at this
                exact (Option.some.inj this).symm
              rw [e1, e2, ck_cc]
            obtain ⟨pt, hpt⟩ : ∃ pt, pt = p.2 := ⟨_, rfl⟩
            rw [← hpt] at q1 HMu HSt
            clear hxj hpj hyj hex hmu hnd hloC hpt
            go_wp2_with (go_at_call 71; fail)
            refine HMu.out.mono ?_
            rintro e w2 ⟨⟨hr, rfl⟩ | ⟨k1, a1, hr, b1, rfl, hb1⟩, hw⟩
            · have HB2 : Hid (Below w.heap.size w w2) := HB.out.trans (hw.mono HB.out.size)
              have HI2 : Hid (ck (lkL fs) ns (chain xs) F.ps = ck (lkL fs) ns (chain (xs.drop (j + 1))) (F.ps.drop (j + 1))) := by
                show _ = _
                rw [HI.out, HSt.out, hr]
                rfl
              clear hw hr
              go_wp2
              exact ⟨⟨j + 1, by omega, by go_num, HI2, HB2⟩, by simp [intOf]; omega⟩
            · refine ⟨rfl, HG0.out _ _ ⟨.inr ⟨k1, a1, ?_, b1, rfl, hb1⟩, HB.out.trans (hw.mono HB.out.size)⟩⟩
              rw [HR2.out, HI.out, HSt.out, hr]
              rfl
          · obtain rfl : j = m := by omega
            have HE : Hid (R0 = .ok ()) := by
              show _ = _
              rw [HR2.out, HI.out, List.drop_of_length_le (by have := HLn.out; omega), List.drop_of_length_le (by have := HNp.out; omega), ck_end]
              rfl
            clear hlt HI
            go_wp2
            go_end0
            exact HG0.out _ _ ⟨.inl ⟨HE.out, rfl⟩, HB.out⟩
    · have hmp' : ((m : Int) == (np : Int)) = false := by simp; omega
      have HR2 : Hid (R0 = .error (2, a)) := by
        show _ = _
        rw [HR1.out, if_pos (by simpa using hmp)]
      clear HR1 hmp
      go_enter Tryz.func83, Tryz.ntmps83
      go_wp2_with fail
      go_region
      all_goals
        go_wp2_with (go_at_call 37; fail)
        refine (throw_any 2 a _).mono ?_
        rintro e w2 ⟨⟨b2, rfl, hb2⟩, hw2⟩
        exact ⟨rfl, HG0.out _ _ ⟨.inr ⟨2, a, HR2.out, b2, rfl, hb2⟩, (Below.refl _ _).drew.trans hw2⟩⟩
  · rw [e1] at hlk
    have hlk' : (Instr.lookup 63 mv (.string y) true).run Tryz.prog w.drew = .ok (.tuple #[.int .i64 0, .bool false]) w.drew := hlk
    have HR1 : Hid (R0 = .error (7, a)) := by
      show _ = _
      rw [HCK.out, e2]
    clear hlk e1 e2
    go_enter Tryz.func83, Tryz.ntmps83
    go_wp2_with fail
    go_region
    all_goals
      go_wp2_with (go_at_call 37; fail)
      refine (throw_any 7 a _).mono ?_
      rintro e w2 ⟨⟨b2, rfl, hb2⟩, hw2⟩
      exact ⟨rfl, HG0.out _ _ ⟨.inr ⟨7, a, HR1.out, b2, rfl, hb2⟩, (Below.refl _ _).drew.trans hw2⟩⟩
set_option maxRecDepth 100000 in
set_option maxHeartbeats 2000000 in
theorem ty_call {a n : Int} {nm op : By} {l r : Tr} {xs : List Tr} (IH : ∀ x ∈ xs, MuC x ∧ IsNd x) (hnm : nm.length ≤ 12) (hxs : xs.length ≤ 1000000) : TyC (nd 5 a n nm op l r (chain xs)) := by
  intro w C fv mv nv fs ns k v hs hf hx
  have HC : Hid (Calls Tryz.prog 83 #[.pointer (some ⟨C, 0, none⟩), v] w (MuP (cv (lkL fs) ns (nd 5 a n nm op l r (chain xs))) w)) := call_any IH hnm hxs w C fv mv nv fs ns k v hs hf hx
  obtain ⟨b, vl, vr, vg, ys, hb, rfl, hblk, hxl, hxr, hrow, hro, hxg⟩ := nd_open hx
  have c0 := cell_at (i := 0) hblk rfl
  have HE : Hid (ck (lkL fs) ns (nd 5 a n nm op l r (chain xs)) [] = bx (cv (lkL fs) ns (nd 5 a n nm op l r (chain xs))) fun _ => .ok 1) := by
    show _ = _
    unfold cv
    rw [bx_assoc, ck_5]
    cases lkL fs nm with
    | none => rfl
    | some ps =>
      show (if _ then _ else _) = bx (if _ then _ else _) _
      split
      · rfl
      · rw [bx_assoc]
        rfl
  have HG0 : Hid (∀ e w', TyP (ck (lkL fs) ns (nd 5 a n nm op l r (chain xs)) []) w e w' → TyP (ck (lkL fs) ns (nd 5 a n nm op l r (chain xs)) []) w e w') := fun _ _ h => h
  generalize hG : TyP (ck (lkL fs) ns (nd 5 a n nm op l r (chain xs)) []) w = G at *
  clear HG0
  have HG0 : Hid (∀ e w', TyP (ck (lkL fs) ns (nd 5 a n nm op l r (chain xs)) []) w e w' → G e w') := fun e w' h => by rw [← hG]; exact h
  generalize cv (lkL fs) ns (nd 5 a n nm op l r (chain xs)) = R0 at *
  generalize ck (lkL fs) ns (nd 5 a n nm op l r (chain xs)) [] = R1 at *
  clear IH hs hf hx hblk hxl hxr hrow hro hxg hG
  go_enter Tryz.func70, Tryz.ntmps70
  go_wp2_with (go_at_call 83; fail)
  refine HC.out.mono ?_
  rintro e w1 ⟨⟨hr, rfl⟩ | ⟨k1, a1, hr, b1, rfl, hb1⟩, hw⟩
  · have HB1 : Hid (Below w.heap.size w w1) := hw
    have HR : Hid (R0 = .ok ()) := hr
    clear hw hr
    go_wp2
    refine HG0.out _ _ ⟨.inl ⟨1, ?_, rfl⟩, HB1.out⟩
    rw [HE.out, HR.out]
    rfl
  · refine ⟨rfl, HG0.out _ _ ⟨.inr ⟨k1, a1, ?_, b1, rfl, hb1⟩, hw⟩⟩
    rw [HE.out, hr]
    rfl
theorem good_mem : ∀ (xs : List Tr), GoodE (chain xs) → ∀ x ∈ xs, GoodE x
  | [], _, x, hx => by simp at hx
  | y :: xs, h, x, hx => by
    have h' : GoodE (.slice [y] [chain xs]) := h
    rw [GoodE] at h'
    rcases List.mem_cons.1 hx with rfl | hx
    · exact h'.2.1
    · exact good_mem xs h'.2.2 x hx
/-- typeOf of any expression that is read. -/
theorem re_isNd {f d : Nat} {t : Tr} (h : RE f d t) : IsNd t := re_nd h
theorem ty_all : ∀ (f d : Nat) (t : Tr), RE f d t → GoodE t → TyC t
  | 0, _, _, h, _ => h.elim
  | f + 1, d, t, h, hg => by
    have MU : ∀ (d : Nat) (t : Tr), RE f d t → GoodE t → MuC t := fun d t h g => must_of (re_isNd h) (ty_all f d t h g)
    rw [RE] at h
    rcases h.2 with ⟨a, n, h0, h1, rfl⟩ | ⟨a, nm, hn, rfl⟩ | ⟨a, op, l, r, h1, h2, h3, rfl⟩ | ⟨a, op, l, h1, h2, rfl⟩ | ⟨a, nm, xs, h1, h2, rfl⟩ | ⟨a, l, h2, rfl⟩ | ⟨a, l, h2, rfl⟩ | ⟨a, l, r, h2, h3, rfl⟩ | ⟨a, rfl⟩
    all_goals
      rw [GoodE] at hg
      obtain ⟨-, -, -, -, -, -, gl, gr, gg, zs, hz, hzl⟩ := hg
    · exact ty_num
    · exact ty_name
    · exact ty_bin (MU _ l h2 gl) (MU _ r h3 gr)
    · exact ty_un (MU _ l h2 gl)
    · have e := chain_inj hz
      subst e
      refine ty_call (fun x hx => ⟨MU _ x (h2 x hx) ?_, re_isNd (h2 x hx)⟩) h1.2.2.2.2 hzl
      exact good_mem xs gg x hx
    · exact ty_new (MU _ l h2 gl)
    · exact ty_len (MU _ l h2 gl)
    · exact ty_item (MU _ l h2 gl) (MU _ r h3 gr)
    · exact ty_input
end Go.Proofs.YtpakgaegckkmnaaGreatDoor

namespace Go.Proofs.YtpakgaegckkmnaaGreatDoor
set_option linter.unusedVariables false
set_option linter.unusedSimpArgs false
open Go Go.RowKit

/-- A block, looked at: names of its own stand for nothing behind it. -/
def blkV (lk : By → Option Nm) (g : Tr) (s : Nm × Nat) : X (Nm × Nat) := bx (cks lk g s) fun s' => .ok (s.1, s'.2)
def StC (t : Tr) : Prop := ∀ (w : World) (C : Nat) (fv mv nv : Value) (fs : List Fun) (ns : Nm) (k : Nat) (cs : Array Value), CkS w C fv mv nv ns k → FxS w C fv mv fs → StAt (Lo C) w (cc t ce) cs.toList → Calls Tryz.prog 57 #[.pointer (some ⟨C, 0, none⟩), .agg cs] w (CkP (cks (lkL fs) (cc t ce) (ns, k)) C fv mv w)
def BlC (g : Tr) : Prop := ∀ (w : World) (C : Nat) (fv mv nv : Value) (fs : List Fun) (ns : Nm) (k : Nat) (v : Value) (n : Nat) (cs : List Value), CkS w C fv mv nv ns k → FxS w C fv mv fs → RowS (Lo C) w 86 7 v n cs → StAt (Lo C) w g cs → Calls Tryz.prog 39 #[.pointer (some ⟨C, 0, none⟩), v] w (CkP (blkV (lkL fs) g (ns, k)) C fv mv w)
theorem cks_ce (lk : By → Option Nm) (s : Nm × Nat) : cks lk ce s = .ok s := by
  rw [cks]
  all_goals simp
/-- One statement ahead of others. -/
theorem cks_cc (lk : By → Option Nm) (c a : Int) (nm : By) (ix v th el g : Tr) (s : Nm × Nat) : cks lk (cc (st c a nm ix v th el) g) s = bx (cks lk (cc (st c a nm ix v th el) ce) s) fun s' => cks lk g s' := by
  rw [cks, cks, bx_assoc]
  congr 1
def IsSt (t : Tr) : Prop := ∃ c a nm ix v th el, t = st c a nm ix v th el
theorem cks_st {t : Tr} (h : IsSt t) (lk : By → Option Nm) (g : Tr) (s : Nm × Nat) : cks lk (cc t g) s = bx (cks lk (cc t ce) s) fun s' => cks lk g s' := by
  obtain ⟨c, a, nm, ix, v, th, el, rfl⟩ := h
  exact cks_cc lk c a nm ix v th el g s
theorem add_pre {s s' : Nm × Nat} {v : By × Int} {a : Int} (h : addV s v a = .ok s') : ∃ ex, s'.1 = s.1 ++ ex := by
  unfold addV at h
  split at h
  · cases h
  · split at h
    · cases h
    · injection h with h
      subst h
      exact ⟨[v], rfl⟩
/-- A statement leaves the names ahead. -/
theorem st_pre {t : Tr} (h : IsSt t) (lk : By → Option Nm) (s s' : Nm × Nat) (hr : cks lk (cc t ce) s = .ok s') : ∃ ex, s'.1 = s.1 ++ ex := by
  obtain ⟨c, a, nm, ix, v, th, el, rfl⟩ := h
  rw [cks] at hr
  obtain ⟨s1, h1, h2⟩ := bx_ok hr
  rw [show cks lk (.slice [] []) s1 = cks lk ce s1 from rfl, cks_ce] at h2
  injection h2 with h2
  subst h2
  split at h1
  · obtain ⟨t, _, h3⟩ := bx_ok h1
    exact add_pre h3
  · split at h1
    · split at h1
      · cases h1
      · obtain ⟨_, _, h3⟩ := bx_ok h1
        injection h3 with h3
        subst h3
        exact ⟨[], by simp⟩
    · split at h1
      · split at h1
        · cases h1
        · split at h1
          · cases h1
          · obtain ⟨_, _, h3⟩ := bx_ok h1
            obtain ⟨_, _, h4⟩ := bx_ok h3
            injection h4 with h4
            subst h4
            exact ⟨[], by simp⟩
      · obtain ⟨_, _, h3⟩ := bx_ok h1
        obtain ⟨_, _, h4⟩ := bx_ok h3
        obtain ⟨_, _, h5⟩ := bx_ok h4
        injection h5 with h5
        subst h5
        exact ⟨[], by simp⟩
theorem own_take {w : World} {B e z n c m : Nat} {q : Option Addr} {cs : List Value} (h : w.ownsRow B e z (.slice q n c) n cs) (hm : m ≤ n) : w.ownsRow B e z (.slice q m c) m (cs.take (m * z)) := by
  have hl := h.1
  refine ⟨by rw [List.length_take, hl]; exact Nat.min_eq_left (Nat.mul_le_mul_right z hm), ?_⟩
  rcases h.2 with ⟨e1, e2⟩ | ⟨g, cap, cur, e1, e2, e3, e4, e5, e6, e7⟩
  · injection e1 with a1 a2 a3
    subst a1
    subst a3
    have : m = 0 := by omega
    subst this
    exact .inl ⟨rfl, rfl⟩
  · injection e1 with a1 a2 a3
    subst a1
    subst a3
    refine .inr ⟨g, c, cur, rfl, e2, e3, by omega, e5, e6, ?_⟩
    rw [← e7, List.take_take]
    congr 1
    exact (Nat.min_eq_left (Nat.mul_le_mul_right z hm)).symm
theorem own_cap {w : World} {B e z n c : Nat} {q : Option Addr} {cs : List Value} (h : w.ownsRow B e z (.slice q n c) n cs) : n ≤ c := by
  rcases h.2 with ⟨e1, e2⟩ | ⟨g, cap, cur, e1, _, _, e4, _⟩
  · injection e1 with a1 a2 a3
    omega
  · injection e1 with a1 a2 a3
    omega
theorem size_83 (w : World) : (sizeOf (Tryz.prog.elem 38)).run Tryz.prog w = .ok 2 w := by kernel_rfl
theorem elem38 : Tryz.prog.underlying 38 = some (.slice (Tryz.prog.elem 38)) := by kernel_rfl
theorem slice_low (q : Option Addr) (n c m : Nat) (w : World) (h : m ≤ c) : (Instr.slice 38 (.slice q n c) none (some (.int .i64 (m : Int))) none).run Tryz.prog w = .ok (.slice q m c) w := by
  rw [run_slice_h w 38 q n c elem38 .i64 (m : Int) (by omega) (by omega), size_83]
  show Result.ok (sliced q 0 (m : Int).toNat c 2) w = _
  unfold sliced
  have e : q.map (·.add (0 * 2)) = q := by cases q <;> simp [Addr.add]
  rw [e]
  simp
theorem psC_take (ns ex : Nm) : (psC (ns ++ ex)).take (ns.length * 2) = psC ns := by
  have e : psC (ns ++ ex) = psC ns ++ psC ex := by simp [psC]
  have l : (psC ns).length = ns.length * 2 := by
    induction ns with
    | nil => rfl
    | cons x ns ih => simp [psC] at ih ⊢; omega
  rw [e, ← l, List.take_left]

set_option maxRecDepth 100000 in
set_option maxHeartbeats 4000000 in
theorem block_of {xs : List Tr} (IH : ∀ x ∈ xs, StC x ∧ IsSt x) (hx6 : xs.length ≤ 1000000) : BlC (chain xs) := by
  intro w C fv mv nv fs ns k v n cs hs hf hr hst
  obtain ⟨q, c, rfl⟩ := own_slice hr.1
  obtain ⟨qn, cn, rfl⟩ := own_slice hs.row
  have HOp := sts_open xs cs hst
  have hn : n = xs.length := by have h1 := HOp.1; have h2 := hr.1.1; omega
  have HNn : Hid (n = xs.length) := hn
  have hn6 : n ≤ 1000000 := by omega
  have HO : Hid (∀ (i : Nat) (x : Tr), xs[i]? = some x → ∃ (n0 n1 : Int) (y2 : ByteArray) (p3 p4 : Option Addr) (s5 : Option Addr) (m5 c5 : Nat) (s6 : Option Addr) (m6 c6 : Nat), StAt (Lo C) w (cc x ce) (#[.int .i64 n0, .int .i64 n1, .string y2, .pointer p3, .pointer p4, .slice s5 m5 c5, .slice s6 m6 c6] : Array Value).toList ∧ ∀ j u, (#[.int .i64 n0, .int .i64 n1, .string y2, .pointer p3, .pointer p4, .slice s5 m5 c5, .slice s6 m6 c6] : Array Value)[j]? = some u → cs[i * 7 + j]? = some u) := HOp.2
  have HS : Hid (CkS w C fv mv (.slice qn ns.length cn) ns k) := hs
  have HF : Hid (FxS w C fv mv fs) := hf
  have HR : Hid (RowS (Lo C) w 86 7 (.slice q n c) n cs) := hr
  have HIH : Hid (∀ x ∈ xs, StC x ∧ IsSt x) := IH
  have d2 := cell_at (i := 2) hs.blk rfl
  have HG0 : Hid (∀ e w', CkP (blkV (lkL fs) (chain xs) (ns, k)) C fv mv w e w' → CkP (blkV (lkL fs) (chain xs) (ns, k)) C fv mv w e w') := fun _ _ h => h
  generalize hG : CkP (blkV (lkL fs) (chain xs) (ns, k)) C fv mv w = G at *
  clear HG0
  have HG0 : Hid (∀ e w', CkP (blkV (lkL fs) (chain xs) (ns, k)) C fv mv w e w' → G e w') := fun e w' h => by rw [← hG]; exact h
  have hns12 : ns.length ≤ 12 := by have := hs.le; have := hs.k12; omega
  obtain ⟨m, hm⟩ : ∃ m, m = ns.length := ⟨_, rfl⟩
  have HM : Hid (m = ns.length) := hm
  rw [← hm] at d2 hns12 HS
  clear IH hx6 hs hf hr hst HOp hn hG hm
  go_enter Tryz.func39, Tryz.ntmps39
  go_wp2_with fail
  go_loopw [14] (fun v wr => ∃ i : Nat, i ≤ n ∧ v = .int .i64 i ∧ Hid (∃ (ns1 : Nm) (k1 : Nat) (nv1 : Value) (ex : Nm), ns1 = ns ++ ex ∧ cks (lkL fs) (chain xs) (ns, k) = cks (lkL fs) (chain (xs.drop i)) (ns1, k1) ∧ CkS wr C fv mv nv1 ns1 k1 ∧ Below C w wr ∧ Kt w wr)) (fun v _ => n - (intOf v).toNat)
  case atStart => exact ⟨0, Nat.zero_le _, rfl, ns, k, .slice qn m cn, [], by simp, by simp, HS.out, Below.refl _ _, fun _ _ _ _ _ h => h⟩
  case round =>
    obtain ⟨i, hin, rfl, HI⟩ := hrel
    obtain ⟨ns1, k1, nv1, ex, hns1, hck, hS1, hB1, hK1⟩ := HI.out
    have HK1 : Hid (Kt w wr) := hK1
    have HB1 : Hid (Below C w wr) := hB1
    have HS1 : Hid (CkS wr C fv mv nv1 ns1 k1) := hS1
    have HCk : Hid (cks (lkL fs) (chain xs) (ns, k) = cks (lkL fs) (chain (xs.drop i)) (ns1, k1)) := hck
    have HEx : Hid (ns1 = ns ++ ex) := hns1
    clear HI hns1 hck hS1 hB1 hK1
    by_cases hlt : i < n
    · obtain ⟨g, cap, e, -, -⟩ := HR.out.1.form (by omega)
      injection e with e1 e2 e3
      subst e1
      clear e2 e3
      obtain ⟨x, hx⟩ : ∃ x, xs[i]? = some x := ⟨xs[i]'(by have := HNn.out; omega), List.getElem?_eq_getElem (by have := HNn.out; omega)⟩
      obtain ⟨n0, n1, y2, p3, p4, s5, m5, c5, s6, m6, c6, hsx, hcs⟩ := HO.out i x hx
      have hrow := (HR.out.kept (lo_keeps HB1.out) (by decide)).1
      have hc : ∀ j u, (#[.int .i64 n0, .int .i64 n1, .string y2, .pointer p3, .pointer p4, .slice s5 m5 c5, .slice s6 m6 c6] : Array Value)[j]? = some u → wr.cell? ⟨g, i * 7 + j, none⟩ = some u := fun j u hu => by
        have := hrow.cells (g := g) rfl (i * 7 + j) u (hcs j u hu)
        rw [add_plain'] at this
        exact this
      have q0 := hc 0 _ rfl
      have q1 := hc 1 _ rfl
      have q2 := hc 2 _ rfl
      have q3 := hc 3 _ rfl
      have q4 := hc 4 _ rfl
      have q5 := hc 5 _ rfl
      have q6 := hc 6 _ rfl
      rw [Nat.add_zero] at q0
      obtain ⟨hstc, hist⟩ := HIH.out x (List.mem_of_getElem? hx)
      have hbW : Below wr.heap.size wr (wr.alloc (.cells #[.int .i64 n0, .int .i64 n1, .string y2, .pointer p3, .pointer p4, .slice s5 m5 c5, .slice s6 m6 c6] 86)) := (Below.refl _ _).alloc (Nat.le_refl _) _
      have hbC : Below C w (wr.alloc (.cells #[.int .i64 n0, .int .i64 n1, .string y2, .pointer p3, .pointer p4, .slice s5 m5 c5, .slice s6 m6 c6] 86)) := HB1.out.alloc (Nat.le_of_lt HS1.out.lt) _
      have HCall : Hid (Calls Tryz.prog 57 #[.pointer (some ⟨C, 0, none⟩), .agg #[.int .i64 n0, .int .i64 n1, .string y2, .pointer p3, .pointer p4, .slice s5 m5 c5, .slice s6 m6 c6]] (wr.alloc (.cells #[.int .i64 n0, .int .i64 n1, .string y2, .pointer p3, .pointer p4, .slice s5 m5 c5, .slice s6 m6 c6] 86)) (CkP (cks (lkL fs) (cc x ce) (ns1, k1)) C fv mv (wr.alloc (.cells #[.int .i64 n0, .int .i64 n1, .string y2, .pointer p3, .pointer p4, .slice s5 m5 c5, .slice s6 m6 c6] 86)))) :=
        hstc _ C fv mv nv1 fs ns1 k1 _ (HS1.out.below hbW) (HF.out.below hbC) (StAt.kept (lo_keeps hbC) _ _ hsx)
      have HKC : Hid (∀ w', Kt (wr.alloc (.cells #[.int .i64 n0, .int .i64 n1, .string y2, .pointer p3, .pointer p4, .slice s5 m5 c5, .slice s6 m6 c6] 86)) w' → Kt w w') := fun w' hk => (HK1.out.trans (kt_below hbW)).trans hk
      have HBC : Hid (∀ w', Below C (wr.alloc (.cells #[.int .i64 n0, .int .i64 n1, .string y2, .pointer p3, .pointer p4, .slice s5 m5 c5, .slice s6 m6 c6] 86)) w' → Below C w w') := fun w' hb => hbC.trans hb
      have HSt : Hid (cks (lkL fs) (chain (xs.drop i)) (ns1, k1) = bx (cks (lkL fs) (cc x ce) (ns1, k1)) fun s' => cks (lkL fs) (chain (xs.drop (i + 1))) s') := by
        show _ = _
        have e1 : xs.drop i = x :: xs.drop (i + 1) := by
          rw [List.drop_eq_getElem_cons (by have := HNn.out; omega)]
          congr 1
          have := List.getElem?_eq_getElem (l := xs) (i := i) (by have := HNn.out; omega)
          rw [hx] at this
          exact (Option.some.inj this).symm
        rw [e1]
        exact cks_st hist (lkL fs) (chain (xs.drop (i + 1))) (ns1, k1)
      have HPre : Hid (∀ s', cks (lkL fs) (cc x ce) (ns1, k1) = .ok s' → ∃ ex, s'.1 = ns1 ++ ex) := fun s' h => st_pre hist _ _ _ h
      clear hrow hc hcs hsx hx hstc hist hbW hbC
      go_wp2_with (go_at_call 57; fail)
      refine HCall.out.mono ?_
      rintro e w2 ⟨⟨ns2, k2, nv2, hr, rfl, hs2⟩ | ⟨kk, aa, hr, b1, rfl, hb1⟩, hw, hkt⟩
      · have HI2 : Hid (∃ (ns1 : Nm) (k1 : Nat) (nv1 : Value) (ex : Nm), ns1 = ns ++ ex ∧ cks (lkL fs) (chain xs) (ns, k) = cks (lkL fs) (chain (xs.drop (i + 1))) (ns1, k1) ∧ CkS w2 C fv mv nv1 ns1 k1 ∧ Below C w w2 ∧ Kt w w2) := by
          obtain ⟨ex2, he2⟩ := HPre.out _ hr
          refine ⟨ns2, k2, nv2, ex ++ ex2, ?_, ?_, hs2, HBC.out _ hw, HKC.out _ hkt⟩
          · have : ns2 = ns1 ++ ex2 := he2
            rw [this, HEx.out, List.append_assoc]
          · rw [HCk.out, HSt.out, hr]
            rfl
        clear hr hs2 hw hkt q0 q1 q2 q3 q4 q5 q6
        go_wp2
        exact ⟨⟨i + 1, by omega, by go_num, HI2⟩, by simp [intOf]; omega⟩
      · refine ⟨rfl, HG0.out _ _ ⟨.inr ⟨kk, aa, ?_, b1, rfl, hb1⟩, HBC.out _ hw, HKC.out _ hkt⟩⟩
        unfold blkV
        rw [HCk.out, HSt.out, hr]
        rfl
    · obtain rfl : i = n := by omega
      have HE : Hid (blkV (lkL fs) (chain xs) (ns, k) = .ok (ns, k1)) := by
        show _ = _
        unfold blkV
        rw [HCk.out, List.drop_of_length_le (by have := HNn.out; omega), show chain [] = ce from rfl, cks_ce]
        rfl
      have hS1 := HS1.out
      obtain ⟨q1, c1, rfl⟩ := own_slice hS1.row
      have d2' := cell_at (i := 2) hS1.blk rfl
      have f2 := row_free hS1.blk 2
      have hmle : m ≤ ns1.length := by rw [HM.out, HEx.out]; simp
      have htk := own_take hS1.row hmle
      have hcap : ns1.length ≤ c1 := own_cap hS1.row
      have hsl : ∀ wx : World, (Instr.slice 38 (.slice q1 ns1.length c1) none (some (.int .i64 (m : Int))) none).run Tryz.prog wx = .ok (.slice q1 m c1) wx := fun wx => slice_low q1 _ c1 m wx (by omega)
      have HTk : Hid (wr.ownsRow (C + 1) 83 2 (.slice q1 m c1) m ((psC ns1).take (m * 2))) := htk
      have HPs : Hid ((psC ns1).take (m * 2) = psC ns) := by show _ = _; rw [HEx.out, HM.out, psC_take]
      have HLe : Hid (m ≤ k1 ∧ k1 ≤ 12) := ⟨by have := hS1.le; omega, hS1.k12⟩
      have HBl : Hid (wr.heap[C]? = some (.cells #[fv, mv, .slice q1 ns1.length c1, .int .i64 (k1 : Int)] 67)) := hS1.blk
      generalize ns1.length = n1 at *
      clear hlt hS1 htk hcap hmle
      go_wp2
      go_end0
      refine HG0.out _ _ ⟨.inl ⟨ns, k1, .slice q1 m c1, HE.out, rfl, ?_, ?_, ?_, ?_⟩, ?_, ?_⟩
      · exact heap_setCell_same _ _ _ _ _ _ HBl.out
      · rw [← HM.out, ← HPs.out]
        exact ownsRow_setCell_below HTk.out (by show C < C + 1; omega) _
      · rw [← HM.out]; exact HLe.out.1
      · exact HLe.out.2
      · exact HB1.out.setCell (p := ⟨C, 2, none⟩) (Nat.le_refl _) _
      · exact HK1.out.trans (kt_set HBl.out)
end Go.Proofs.YtpakgaegckkmnaaGreatDoor

namespace Go.Proofs.YtpakgaegckkmnaaGreatDoor
set_option linter.unusedVariables false
set_option linter.unusedSimpArgs false
open Go Go.RowKit

theorem bx_end {α : Type} (x : X α) (lk : By → Option Nm) : (fun (x : X (Nm × Nat)) => bx x fun s' => cks lk (.slice [] []) s') = fun x => x := by
  funext x
  cases x with
  | error e => rfl
  | ok s => show cks lk ce s = _; rw [cks_ce]
theorem cks_e (lk : By → Option Nm) (x : X (Nm × Nat)) : (bx x fun s' => cks lk (.slice [] []) s') = x := by
  cases x with
  | error e => rfl
  | ok s => show cks lk ce s = _; rw [cks_ce]
theorem cks_1 (lk : By → Option Nm) (a : Int) (nm : By) (ix v th el : Tr) (s : Nm × Nat) : cks lk (cc (st 1 a nm ix v th el) ce) s = bx (ck lk s.1 v []) fun t => addV s (nm, t) a := by
  rw [cks, cks_e]
  simp
theorem cks_2 (lk : By → Option Nm) (a : Int) (nm : By) (ix v th el : Tr) (s : Nm × Nat) : cks lk (cc (st 2 a nm ix v th el) ce) s = (match fndN s.1 nm with | none => .error (7, a) | some k => bx (mu lk s.1 v k) fun _ => .ok s) := by
  rw [cks, cks_e]
  simp <;> (cases fndN s.1 nm <;> rfl)
theorem cks_3 (lk : By → Option Nm) (a : Int) (nm : By) (ix v th el : Tr) (s : Nm × Nat) : cks lk (cc (st 3 a nm ix v th el) ce) s = (match fndN s.1 nm with | none => .error (7, a) | some k => if k ≠ 2 then .error (1, a) else bx (mu lk s.1 ix 1) fun _ => bx (mu lk s.1 v 1) fun _ => .ok s) := by
  rw [cks, cks_e]
  simp <;> (cases fndN s.1 nm <;> simp)
theorem cks_d (lk : By → Option Nm) (c a : Int) (nm : By) (ix v th el : Tr) (s : Nm × Nat) (h1 : c ≠ 1) (h2 : c ≠ 2) (h3 : c ≠ 3) : cks lk (cc (st c a nm ix v th el) ce) s = bx (mu lk s.1 v 1) fun _ => bx (blkV lk th s) fun s1 => blkV lk el s1 := by
  rw [cks, cks_e]
  rw [if_neg h1, if_neg h2, if_neg h3]
  congr 1
  funext _
  unfold blkV
  rw [bx_assoc]
  rfl
/-- What a statement is called with. -/
theorem st_one {S : Nat → Prop} {w : World} {c a : Int} {nm : By} {ix v th el : Tr} {cs : Array Value} (h : StAt S w (cc (st c a nm ix v th el) ce) cs.toList) : ∃ (vi vv : Option Addr) (vt ve : Value) (nt ne : Nat) (ts es : List Value), cs = #[.int .i64 c, .int .i64 a, str nm, .pointer vi, .pointer vv, vt, ve] ∧ ExAt S w ix (.pointer vi) ∧ ExAt S w v (.pointer vv) ∧ RowS S w 86 7 vt nt ts ∧ StAt S w th ts ∧ RowS S w 86 7 ve ne es ∧ StAt S w el es := by
  obtain ⟨vi, vv, vt, ve, nt, ne, ts, es, rest, e, a1, a2, a3, a4, a5, a6, a7⟩ := st_open h
  have hr : rest = [] := by
    have : StAt S w (.slice [] []) rest := a7
    rw [StAt] at this
    exact this
  subst hr
  refine ⟨vi, vv, vt, ve, nt, ne, ts, es, ?_, a1, a2, a3, a4, a5, a6⟩
  have := congrArg List.toArray e
  rw [Array.toArray_toList] at this
  exact this

set_option maxRecDepth 100000 in
set_option maxHeartbeats 4000000 in
theorem st_rest {c a : Int} {nm : By} {ix v th el : Tr} (h4 : 4 ≤ c) (h8 : c ≤ 8) (IV : MuC v) (IT : BlC th) (IE : BlC el) : StC (st c a nm ix v th el) := by
  intro w C fv mv nv fs ns k cs hs hf hst
  obtain ⟨vi, vv, vt, ve, nt, ne, ts, es, rfl, hxi, hxv, hrt, hst1, hre, hse⟩ := st_one hst
  obtain ⟨y, hy, hyt⟩ := str_y nm
  rw [hy]
  have HY : Hid (y.data.toList = nm) := hyt
  obtain ⟨s5, c5, rfl⟩ := own_slice hrt.1
  obtain ⟨s6, c6, rfl⟩ := own_slice hre.1
  obtain ⟨W0, hW0⟩ : ∃ W0, W0 = w.alloc (.cells #[.int .i64 c, .int .i64 a, .string y, .pointer vi, .pointer vv, .slice s5 nt c5, .slice s6 ne c6] 86) := ⟨_, rfl⟩
  have hb0 : Below w.heap.size w W0 := by rw [hW0]; exact (Below.refl _ _).alloc (Nat.le_refl _) _
  have hblk0 : W0.heap[w.heap.size]? = some (.cells #[.int .i64 c, .int .i64 a, .string y, .pointer vi, .pointer vv, .slice s5 nt c5, .slice s6 ne c6] 86) := by rw [hW0]; exact heap_alloc_last w _
  have hlo := hb0.mono (Nat.le_of_lt hs.lt)
  have HS0 : Hid (CkS W0 C fv mv nv ns k) := hs.below hb0
  have HF0 : Hid (FxS W0 C fv mv fs) := hf.below hlo
  have HXi : Hid (ExAt (Lo C) W0 ix (.pointer vi)) := (lo_keeps hlo).ex hxi
  have HXv : Hid (ExAt (Lo C) W0 v (.pointer vv)) := (lo_keeps hlo).ex hxv
  have HRt : Hid (RowS (Lo C) W0 86 7 (.slice s5 nt c5) nt ts) := hrt.kept (lo_keeps hlo) (by decide)
  have HSt : Hid (StAt (Lo C) W0 th ts) := StAt.kept (lo_keeps hlo) _ _ hst1
  have HRe : Hid (RowS (Lo C) W0 86 7 (.slice s6 ne c6) ne es) := hre.kept (lo_keeps hlo) (by decide)
  have HSe : Hid (StAt (Lo C) W0 el es) := StAt.kept (lo_keeps hlo) _ _ hse
  have HB0 : Hid (Below C w W0) := hlo
  have HK0 : Hid (Kt w W0) := kt_below hb0
  have HBk : Hid (W0.heap[w.heap.size]? = some (.cells #[.int .i64 c, .int .i64 a, .string y, .pointer vi, .pointer vv, .slice s5 nt c5, .slice s6 ne c6] 86)) := hblk0
  have HCl : Hid (C < w.heap.size) := hs.lt
  have z0 := cell_at (i := 0) hblk0 rfl
  have z1 := cell_at (i := 1) hblk0 rfl
  have z2 := cell_at (i := 2) hblk0 rfl
  have z3 := cell_at (i := 3) hblk0 rfl
  have z4 := cell_at (i := 4) hblk0 rfl
  rw [hW0] at z0 z1 z2 z3 z4
  have n1 : ((c : Int) == 1) = false := by simp; omega
  have n2 : ((c : Int) == 2) = false := by simp; omega
  have n3 : ((c : Int) == 3) = false := by simp; omega
  have HE : Hid (cks (lkL fs) (cc (st c a nm ix v th el) ce) (ns, k) = bx (mu (lkL fs) ns v 1) fun _ => bx (blkV (lkL fs) th (ns, k)) fun s1 => blkV (lkL fs) el s1) := cks_d (lkL fs) c a nm ix v th el (ns, k) (by omega) (by omega) (by omega)
  have HG0 : Hid (∀ e w', CkP (cks (lkL fs) (cc (st c a nm ix v th el) ce) (ns, k)) C fv mv w e w' → CkP (cks (lkL fs) (cc (st c a nm ix v th el) ce) (ns, k)) C fv mv w e w') := fun _ _ h => h
  generalize hG : CkP (cks (lkL fs) (cc (st c a nm ix v th el) ce) (ns, k)) C fv mv w = G at *
  clear HG0
  have HG0 : Hid (∀ e w', CkP (cks (lkL fs) (cc (st c a nm ix v th el) ce) (ns, k)) C fv mv w e w' → G e w') := fun e w' h => by rw [← hG]; exact h
  generalize cks (lkL fs) (cc (st c a nm ix v th el) ce) (ns, k) = R0 at *
  clear hs hf hst hxi hxv hrt hst1 hre hse hy hyt hb0 hblk0 hlo hG
  go_enter Tryz.func57, Tryz.ntmps57
  go_wp2_with (go_at_call 71; fail)
  rw [← hW0]
  clear hW0 z0 z1 z2 z3 z4
  refine (IV W0 C fv mv nv fs ns k _ 1 HS0.out HF0.out HXv.out).mono ?_
  rintro e w1 ⟨⟨hr, rfl⟩ | ⟨k1, a1, hr, b1, rfl, hb1⟩, hw⟩
  rotate_left
  · refine ⟨rfl, HG0.out _ _ ⟨.inr ⟨k1, a1, ?_, b1, rfl, hb1⟩, HB0.out.trans (hw.mono (Nat.le_of_lt HS0.out.lt)), HK0.out.trans (kt_below hw)⟩⟩
    rw [HE.out, hr]
    rfl
  have hlo := hw.mono (Nat.le_of_lt HS0.out.lt)
  have HR1 : Hid (mu (lkL fs) ns v 1 = .ok ()) := hr
  have HS1 : Hid (CkS w1 C fv mv nv ns k) := HS0.out.below hw
  have HF1 : Hid (FxS w1 C fv mv fs) := HF0.out.below hlo
  have HRt1 : Hid (RowS (Lo C) w1 86 7 (.slice s5 nt c5) nt ts) := HRt.out.kept (lo_keeps hlo) (by decide)
  have HSt1 : Hid (StAt (Lo C) w1 th ts) := StAt.kept (lo_keeps hlo) _ _ HSt.out
  have HRe1 : Hid (RowS (Lo C) w1 86 7 (.slice s6 ne c6) ne es) := HRe.out.kept (lo_keeps hlo) (by decide)
  have HSe1 : Hid (StAt (Lo C) w1 el es) := StAt.kept (lo_keeps hlo) _ _ HSe.out
  have HB1 : Hid (Below C w w1) := HB0.out.trans hlo
  have HK1 : Hid (Kt w w1) := HK0.out.trans (kt_below hw)
  have hbk1 := blk_at (C := C) HBk.out hw
  have z5 := cell_at (i := 5) hbk1 rfl
  have HBk1 : Hid (w1.heap[w.heap.size]? = some (.cells #[.int .i64 c, .int .i64 a, .string y, .pointer vi, .pointer vv, .slice s5 nt c5, .slice s6 ne c6] 86)) := hbk1
  clear hlo hw hr hbk1
  go_wp2_with (go_at_call 39; fail)
  refine (IT w1 C fv mv nv fs ns k _ nt ts HS1.out HF1.out HRt1.out HSt1.out).mono ?_
  rintro e w2 ⟨⟨ns2, k2, nv2, hr, rfl, hs2⟩ | ⟨k1, a1, hr, b1, rfl, hb1⟩, hw, hkt⟩
  rotate_left
  · refine ⟨rfl, HG0.out _ _ ⟨.inr ⟨k1, a1, ?_, b1, rfl, hb1⟩, HB1.out.trans hw, HK1.out.trans hkt⟩⟩
    rw [HE.out, HR1.out]
    show bx (blkV (lkL fs) th (ns, k)) _ = _
    rw [hr]
    rfl
  have HR2 : Hid (blkV (lkL fs) th (ns, k) = .ok (ns2, k2)) := hr
  have HS2 : Hid (CkS w2 C fv mv nv2 ns2 k2) := hs2
  have HF2 : Hid (FxS w2 C fv mv fs) := HF1.out.below hw
  have HRe2 : Hid (RowS (Lo C) w2 86 7 (.slice s6 ne c6) ne es) := HRe1.out.kept (lo_keeps hw) (by decide)
  have HSe2 : Hid (StAt (Lo C) w2 el es) := StAt.kept (lo_keeps hw) _ _ HSe1.out
  have HB2 : Hid (Below C w w2) := HB1.out.trans hw
  have HK2 : Hid (Kt w w2) := HK1.out.trans hkt
  have hbk2 := hkt _ _ 86 (by decide) (by decide) HBk1.out
  have z6 := cell_at (i := 6) hbk2 rfl
  clear hr hs2 hw hkt hbk2 z5
  go_wp2_with (go_at_call 39; fail)
  refine (IE w2 C fv mv nv2 fs ns2 k2 _ ne es HS2.out HF2.out HRe2.out HSe2.out).mono ?_
  rintro e w3 ⟨⟨ns3, k3, nv3, hr, rfl, hs3⟩ | ⟨k1, a1, hr, b1, rfl, hb1⟩, hw, hkt⟩
  rotate_left
  · refine ⟨rfl, HG0.out _ _ ⟨.inr ⟨k1, a1, ?_, b1, rfl, hb1⟩, HB2.out.trans hw, HK2.out.trans hkt⟩⟩
    rw [HE.out, HR1.out]
    show bx (blkV (lkL fs) th (ns, k)) _ = _
    rw [HR2.out]
    exact hr
  have HEnd : Hid (G (.returned (.tuple #[])) w3) := HG0.out _ _ ⟨.inl ⟨ns3, k3, nv3, by
    rw [HE.out, HR1.out]
    show bx (blkV (lkL fs) th (ns, k)) _ = _
    rw [HR2.out]
    exact hr, rfl, hs3⟩, HB2.out.trans hw, HK2.out.trans hkt⟩
  clear hr hs3 hw hkt z6
  go_wp2
  go_end0
  exact HEnd.out
set_option maxRecDepth 100000 in
set_option maxHeartbeats 4000000 in
theorem st_var {a : Int} {nm : By} {ix v th el : Tr} (IV : TyC v) : StC (st 1 a nm ix v th el) := by
  intro w C fv mv nv fs ns k cs hs hf hst
  obtain ⟨vi, vv, vt, ve, nt, ne, ts, es, rfl, hxi, hxv, hrt, hst1, hre, hse⟩ := st_one hst
  obtain ⟨y, hy, hyt⟩ := str_y nm
  rw [hy]
  have HY : Hid (y.data.toList = nm) := hyt
  obtain ⟨s5, c5, rfl⟩ := own_slice hrt.1
  obtain ⟨s6, c6, rfl⟩ := own_slice hre.1
  obtain ⟨W0, hW0⟩ : ∃ W0, W0 = w.alloc (.cells #[.int .i64 1, .int .i64 a, .string y, .pointer vi, .pointer vv, .slice s5 nt c5, .slice s6 ne c6] 86) := ⟨_, rfl⟩
  have hb0 : Below w.heap.size w W0 := by rw [hW0]; exact (Below.refl _ _).alloc (Nat.le_refl _) _
  have hblk0 : W0.heap[w.heap.size]? = some (.cells #[.int .i64 1, .int .i64 a, .string y, .pointer vi, .pointer vv, .slice s5 nt c5, .slice s6 ne c6] 86) := by rw [hW0]; exact heap_alloc_last w _
  have hlo := hb0.mono (Nat.le_of_lt hs.lt)
  have HS0 : Hid (CkS W0 C fv mv nv ns k) := hs.below hb0
  have HF0 : Hid (FxS W0 C fv mv fs) := hf.below hlo
  have HXi : Hid (ExAt (Lo C) W0 ix (.pointer vi)) := (lo_keeps hlo).ex hxi
  have HXv : Hid (ExAt (Lo C) W0 v (.pointer vv)) := (lo_keeps hlo).ex hxv
  have HRt : Hid (RowS (Lo C) W0 86 7 (.slice s5 nt c5) nt ts) := hrt.kept (lo_keeps hlo) (by decide)
  have HSt : Hid (StAt (Lo C) W0 th ts) := StAt.kept (lo_keeps hlo) _ _ hst1
  have HRe : Hid (RowS (Lo C) W0 86 7 (.slice s6 ne c6) ne es) := hre.kept (lo_keeps hlo) (by decide)
  have HSe : Hid (StAt (Lo C) W0 el es) := StAt.kept (lo_keeps hlo) _ _ hse
  have HB0 : Hid (Below C w W0) := hlo
  have HK0 : Hid (Kt w W0) := kt_below hb0
  have HBk : Hid (W0.heap[w.heap.size]? = some (.cells #[.int .i64 1, .int .i64 a, .string y, .pointer vi, .pointer vv, .slice s5 nt c5, .slice s6 ne c6] 86)) := hblk0
  have HCl : Hid (C < w.heap.size) := hs.lt
  have z0 := cell_at (i := 0) hblk0 rfl
  have z1 := cell_at (i := 1) hblk0 rfl
  have z2 := cell_at (i := 2) hblk0 rfl
  have z3 := cell_at (i := 3) hblk0 rfl
  have z4 := cell_at (i := 4) hblk0 rfl
  rw [hW0] at z0 z1 z2 z3 z4
  have HE : Hid (cks (lkL fs) (cc (st 1 a nm ix v th el) ce) (ns, k) = bx (ck (lkL fs) ns v []) fun t => addV (ns, k) (nm, t) a) := cks_1 (lkL fs) a nm ix v th el (ns, k)
  have HG0 : Hid (∀ e w', CkP (cks (lkL fs) (cc (st 1 a nm ix v th el) ce) (ns, k)) C fv mv w e w' → CkP (cks (lkL fs) (cc (st 1 a nm ix v th el) ce) (ns, k)) C fv mv w e w') := fun _ _ h => h
  generalize hG : CkP (cks (lkL fs) (cc (st 1 a nm ix v th el) ce) (ns, k)) C fv mv w = G at *
  clear HG0
  have HG0 : Hid (∀ e w', CkP (cks (lkL fs) (cc (st 1 a nm ix v th el) ce) (ns, k)) C fv mv w e w' → G e w') := fun e w' h => by rw [← hG]; exact h
  generalize cks (lkL fs) (cc (st 1 a nm ix v th el) ce) (ns, k) = R0 at *
  clear hs hf hst hxi hxv hrt hst1 hre hse hy hyt hb0 hblk0 hlo hG
  have HSd : Hid (CkS W0.drew C fv mv nv ns k) := HS0.out.below (Below.refl _ _).drew
  have HFd : Hid (FxS W0.drew C fv mv fs) := HF0.out.below (Below.refl _ _).drew
  have HXvd : Hid (ExAt (Lo C) W0.drew v (.pointer vv)) := (lo_keeps (Below.refl _ _).drew).ex HXv.out
  have HXid : Hid (ExAt (Lo C) W0.drew ix (.pointer vi)) := (lo_keeps (Below.refl _ _).drew).ex HXi.out
  have HBkd : Hid (W0.drew.heap[w.heap.size]? = some (.cells #[.int .i64 1, .int .i64 a, .string y, .pointer vi, .pointer vv, .slice s5 nt c5, .slice s6 ne c6] 86)) := HBk.out
  have HBd : Hid (∀ w', Below W0.drew.heap.size W0.drew w' → Below C w w' ∧ Kt w w') := fun w' h => by
    have h1 : Below W0.heap.size W0 w' := (Below.refl _ _).drew.trans h
    exact ⟨HB0.out.trans (h1.mono (Nat.le_of_lt HS0.out.lt)), HK0.out.trans (kt_below h1)⟩
  go_enter Tryz.func57, Tryz.ntmps57
  go_wp2_with fail
  rw [← hW0] at z0 z1 z2 z3 z4 ⊢
  clear hW0
  go_region_with (first
    | (go_at_call 70; refine (IV W0.drew C fv mv nv fs ns k _ HSd.out HFd.out HXvd.out).mono ?_; rintro e w1 ⟨⟨t, hr, rfl⟩ | ⟨k1, a1, hr, b1, rfl, hb1⟩, hw⟩; rotate_left; exact (by refine ⟨rfl, HG0.out _ _ ⟨.inr ⟨k1, a1, ?_, b1, rfl, hb1⟩, (HBd.out _ hw).1, (HBd.out _ hw).2⟩⟩; rw [HE.out, hr]; rfl); have HR1 : Hid (ck (lkL fs) ns v [] = .ok t) := hr; have HS1 : Hid (CkS w1 C fv mv nv ns k) := HSd.out.below hw; have HB1 : Hid (Below C w w1 ∧ Kt w w1) := HBd.out _ hw; have hbk1 := blk_at (C := C) HBkd.out hw; have y1 := cell_at (i := 1) hbk1 rfl; have y2 := cell_at (i := 2) hbk1 rfl; clear hr hw hbk1)
    | (go_at_call 38; refine (add_any HS1.out y t a).mono ?_; rintro e w2 ⟨⟨ns2, k2, nv2, hr, rfl, hs2⟩ | ⟨k1, a1, hr, b1, rfl, hb1⟩, hw, hkt⟩; rotate_left; exact (by refine ⟨rfl, HG0.out _ _ ⟨.inr ⟨k1, a1, ?_, b1, rfl, hb1⟩, HB1.out.1.trans hw, HB1.out.2.trans hkt⟩⟩; rw [HE.out, HR1.out]; show addV (ns, k) (nm, t) a = _; rw [← HY.out]; exact hr); have HEnd : Hid (G (.returned (.tuple #[])) w2) := HG0.out _ _ ⟨.inl ⟨ns2, k2, nv2, (by rw [HE.out, HR1.out]; show addV (ns, k) (nm, t) a = _; rw [← HY.out]; exact hr), rfl, hs2⟩, HB1.out.1.trans hw, HB1.out.2.trans hkt⟩; clear hr hs2 hw hkt))
  all_goals
    go_wp2
    go_end0
    exact HEnd.out
set_option maxRecDepth 100000 in
set_option maxHeartbeats 4000000 in
theorem st_set {a : Int} {nm : By} {ix v th el : Tr} (IV : MuC v) : StC (st 2 a nm ix v th el) := by
  intro w C fv mv nv fs ns k cs hs hf hst
  obtain ⟨vi, vv, vt, ve, nt, ne, ts, es, rfl, hxi, hxv, hrt, hst1, hre, hse⟩ := st_one hst
  obtain ⟨y, hy, hyt⟩ := str_y nm
  rw [hy]
  have HY : Hid (y.data.toList = nm) := hyt
  obtain ⟨s5, c5, rfl⟩ := own_slice hrt.1
  obtain ⟨s6, c6, rfl⟩ := own_slice hre.1
  obtain ⟨W0, hW0⟩ : ∃ W0, W0 = w.alloc (.cells #[.int .i64 2, .int .i64 a, .string y, .pointer vi, .pointer vv, .slice s5 nt c5, .slice s6 ne c6] 86) := ⟨_, rfl⟩
  have hb0 : Below w.heap.size w W0 := by rw [hW0]; exact (Below.refl _ _).alloc (Nat.le_refl _) _
  have hblk0 : W0.heap[w.heap.size]? = some (.cells #[.int .i64 2, .int .i64 a, .string y, .pointer vi, .pointer vv, .slice s5 nt c5, .slice s6 ne c6] 86) := by rw [hW0]; exact heap_alloc_last w _
  have hlo := hb0.mono (Nat.le_of_lt hs.lt)
  have HS0 : Hid (CkS W0 C fv mv nv ns k) := hs.below hb0
  have HF0 : Hid (FxS W0 C fv mv fs) := hf.below hlo
  have HXi : Hid (ExAt (Lo C) W0 ix (.pointer vi)) := (lo_keeps hlo).ex hxi
  have HXv : Hid (ExAt (Lo C) W0 v (.pointer vv)) := (lo_keeps hlo).ex hxv
  have HRt : Hid (RowS (Lo C) W0 86 7 (.slice s5 nt c5) nt ts) := hrt.kept (lo_keeps hlo) (by decide)
  have HSt : Hid (StAt (Lo C) W0 th ts) := StAt.kept (lo_keeps hlo) _ _ hst1
  have HRe : Hid (RowS (Lo C) W0 86 7 (.slice s6 ne c6) ne es) := hre.kept (lo_keeps hlo) (by decide)
  have HSe : Hid (StAt (Lo C) W0 el es) := StAt.kept (lo_keeps hlo) _ _ hse
  have HB0 : Hid (Below C w W0) := hlo
  have HK0 : Hid (Kt w W0) := kt_below hb0
  have HBk : Hid (W0.heap[w.heap.size]? = some (.cells #[.int .i64 2, .int .i64 a, .string y, .pointer vi, .pointer vv, .slice s5 nt c5, .slice s6 ne c6] 86)) := hblk0
  have HCl : Hid (C < w.heap.size) := hs.lt
  have z0 := cell_at (i := 0) hblk0 rfl
  have z1 := cell_at (i := 1) hblk0 rfl
  have z2 := cell_at (i := 2) hblk0 rfl
  have z3 := cell_at (i := 3) hblk0 rfl
  have z4 := cell_at (i := 4) hblk0 rfl
  rw [hW0] at z0 z1 z2 z3 z4
  have HE : Hid (cks (lkL fs) (cc (st 2 a nm ix v th el) ce) (ns, k) = (match fndN ns nm with | none => .error (7, a) | some q => bx (mu (lkL fs) ns v q) fun _ => .ok (ns, k))) := cks_2 (lkL fs) a nm ix v th el (ns, k)
  have HG0 : Hid (∀ e w', CkP (cks (lkL fs) (cc (st 2 a nm ix v th el) ce) (ns, k)) C fv mv w e w' → CkP (cks (lkL fs) (cc (st 2 a nm ix v th el) ce) (ns, k)) C fv mv w e w') := fun _ _ h => h
  generalize hG : CkP (cks (lkL fs) (cc (st 2 a nm ix v th el) ce) (ns, k)) C fv mv w = G at *
  clear HG0
  have HG0 : Hid (∀ e w', CkP (cks (lkL fs) (cc (st 2 a nm ix v th el) ce) (ns, k)) C fv mv w e w' → G e w') := fun e w' h => by rw [← hG]; exact h
  generalize cks (lkL fs) (cc (st 2 a nm ix v th el) ce) (ns, k) = R0 at *
  clear hs hf hst hxi hxv hrt hst1 hre hse hy hyt hb0 hblk0 hlo hG
  have HSd : Hid (CkS W0.drew C fv mv nv ns k) := HS0.out.below (Below.refl _ _).drew
  have HFd : Hid (FxS W0.drew C fv mv fs) := HF0.out.below (Below.refl _ _).drew
  have HXvd : Hid (ExAt (Lo C) W0.drew v (.pointer vv)) := (lo_keeps (Below.refl _ _).drew).ex HXv.out
  have HXid : Hid (ExAt (Lo C) W0.drew ix (.pointer vi)) := (lo_keeps (Below.refl _ _).drew).ex HXi.out
  have HBkd : Hid (W0.drew.heap[w.heap.size]? = some (.cells #[.int .i64 2, .int .i64 a, .string y, .pointer vi, .pointer vv, .slice s5 nt c5, .slice s6 ne c6] 86)) := HBk.out
  have HBd : Hid (∀ w', Below W0.drew.heap.size W0.drew w' → Below C w w' ∧ Kt w w') := fun w' h => by
    have h1 : Below W0.heap.size W0 w' := (Below.refl _ _).drew.trans h
    exact ⟨HB0.out.trans (h1.mono (Nat.le_of_lt HS0.out.lt)), HK0.out.trans (kt_below h1)⟩
  go_enter Tryz.func57, Tryz.ntmps57
  go_wp2_with fail
  rw [← hW0] at z0 z1 z2 z3 z4 ⊢
  clear hW0
  go_region_with (first
    | (go_at_call 72; refine (variable_any HSd.out y a).mono ?_; rintro e w1 ⟨⟨t, hr, rfl⟩ | ⟨hr, b1, rfl, hb1⟩, hw⟩; rotate_left; exact (by refine ⟨rfl, HG0.out _ _ ⟨.inr ⟨7, a, ?_, b1, rfl, hb1⟩, (HBd.out _ hw).1, (HBd.out _ hw).2⟩⟩; rw [HE.out, ← HY.out, hr]); have HR1 : Hid (fndN ns y.data.toList = some t) := hr; have HS1 : Hid (CkS w1 C fv mv nv ns k) := HSd.out.below hw; have HF1 : Hid (FxS w1 C fv mv fs) := HFd.out.below (hw.mono (Nat.le_of_lt HSd.out.lt)); have HX1 : Hid (ExAt (Lo C) w1 v (.pointer vv)) := (lo_keeps (hw.mono (Nat.le_of_lt HSd.out.lt))).ex HXvd.out; have HB1 : Hid (Below C w w1 ∧ Kt w w1) := HBd.out _ hw; have hbk1 := blk_at (C := C) HBkd.out hw; have y4 := cell_at (i := 4) hbk1 rfl; clear hr hw hbk1)
    | (go_at_call 71; refine (IV w1 C fv mv nv fs ns k _ t HS1.out HF1.out HX1.out).mono ?_; rintro e w2 ⟨⟨hr, rfl⟩ | ⟨k1, a1, hr, b1, rfl, hb1⟩, hw⟩; rotate_left; exact (by refine ⟨rfl, HG0.out _ _ ⟨.inr ⟨k1, a1, ?_, b1, rfl, hb1⟩, HB1.out.1.trans (hw.mono (Nat.le_of_lt HS1.out.lt)), HB1.out.2.trans (kt_below hw)⟩⟩; rw [HE.out, ← HY.out, HR1.out]; show bx (mu (lkL fs) ns v t) _ = _; rw [hr]; rfl); have HEnd : Hid (G (.returned (.tuple #[])) w2) := HG0.out _ _ ⟨.inl ⟨ns, k, nv, (by rw [HE.out, ← HY.out, HR1.out]; show bx (mu (lkL fs) ns v t) _ = _; rw [hr]; rfl), rfl, HS1.out.below hw⟩, HB1.out.1.trans (hw.mono (Nat.le_of_lt HS1.out.lt)), HB1.out.2.trans (kt_below hw)⟩; clear hr hw))
  all_goals
    go_wp2
    go_end0
    exact HEnd.out
end Go.Proofs.YtpakgaegckkmnaaGreatDoor
