/- Package machine's take, goesThere, and the closure that writes a register, walked. Package machine's closure that tells a number, walked. -/
import Derived.Test.YtaodcpdkobhmfaaDoorG5
import Derived.Deep.AppendLies
import Derived.Deep.RegionLaw
namespace Go.Proofs.YtaodcpdkobhmfaaDoor
open Go Go.RowKit

set_option maxHeartbeats 1000000 in
theorem take_none (w : World) (s : Nat) (p : Option Addr) (c : Nat) (hg : w.cell? ⟨s, 34, none⟩ = some (.slice p 0 c)) :
    Calls Tryd.prog 66 #[.pointer (some ⟨s, 0, none⟩)] w fun e w' => e = .returned (.int .i64 0) ∧ w' = w := by
  go_enter Tryd.func66, Tryd.ntmps66
  go_wp2
  go_ret
  exact ⟨rfl, rfl⟩

set_option maxHeartbeats 1000000 in
theorem take_some (w : World) (s gb o n c : Nat) (g : Int) (hg : w.cell? ⟨s, 34, none⟩ = some (.slice (some ⟨gb, o, none⟩) (n + 1) c)) (hc : n + 1 ≤ c) (hc2 : c ≤ 9223372036854775807) (hv : w.cell? ⟨gb, o, none⟩ = some (.int .i64 g))
    (hf : ∀ i, w.frozen? ⟨s, i, none⟩ = false) :
    Calls Tryd.prog 66 #[.pointer (some ⟨s, 0, none⟩)] w fun e w' => e = .returned (.int .i64 g) ∧ ∃ o', w' = w.setCell ⟨s, 34, none⟩ (.slice (some ⟨gb, o', none⟩) n (c - 1)) ∧ (n = 0 ∨ o' = o + 1) := by
  by_cases h1 : c = 1
  · obtain rfl : n = 0 := by omega
    subst h1
    go_enter Tryd.func66, Tryd.ntmps66
    go_wp2
    go_ret
    exact ⟨rfl, _, rfl, .inl trivial⟩
  · have h2 : 2 ≤ c := by omega
    go_enter Tryd.func66, Tryd.ntmps66
    go_wp2
    all_goals
      first
      | (exfalso; omega)
      | (go_ret
         exact ⟨rfl, _, rfl, .inr rfl⟩)

/-- What goesThere tells. -/
def goesV (o a b : Int) : Bool := if o = 25 then a == b else if o = 26 then a != b else if o = 27 then decide (a < b) else decide (b ≤ a)

def goesL (a b : Int) : List Value := List.replicate 25 (.bool false) ++ [.bool (a == b), .bool (a != b), .bool (decide (a < b)), .bool (decide (b ≤ a))]

theorem goesL_one (a b : Int) : ∀ v ∈ goesL a b, v.oneCell' = true := by
  intro v hv
  simp [goesL] at hv
  rcases hv with rfl | rfl | rfl | rfl | rfl <;> rfl

set_option maxRecDepth 100000 in
set_option maxHeartbeats 1000000 in
theorem goes_any (o a b : Int) (w : World) (ho : o = 25 ∨ o = 26 ∨ o = 27 ∨ o = 28) :
    Calls Tryd.prog 46 #[.int .i64 o, .int .i64 a, .int .i64 b] w fun e w' => e = .returned (.bool (goesV o a b)) ∧ Below w.heap.size w w' := by
  have HB : Hid (Below w.heap.size w (w.alloc (.cells (goesL a b).toArray 128))) := (Below.refl _ _).alloc (Nat.le_refl _) _
  have hcell : (w.alloc (.cells (goesL a b).toArray 128)).cell? ⟨w.heap.size, o.toNat, none⟩ = some (.bool (goesV o a b)) := by
    rw [cell_of_row _ _ _ _ _ _ (heap_alloc_last w _)]
    rcases ho with rfl | rfl | rfl | rfl <;> rfl
  have ONE := goesL_one a b
  have SZ : (Tryd.prog.info? 128).map (·.size) = some (goesL a b).length := by kernel_rfl
  have HO : Hid (∀ v ∈ goesL a b, v.oneCell' = true) := ONE
  have HS : Hid ((Tryd.prog.info? 128).map (·.size) = some (goesL a b).length) := SZ
  clear ONE SZ
  have ho2 : 25 ≤ o ∧ o ≤ 28 := by omega
  obtain ⟨o, rfl⟩ := Int.eq_ofNat_of_zero_le (show 0 ≤ o by omega)
  simp only [Int.toNat_natCast] at hcell
  generalize goesV o a b = r at *
  go_enter Tryd.func46, Tryd.ntmps46
  go_wp2_with (refine wpList_store_new rfl 128 _ _ rfl _ _ (goesL a b) rfl rfl (by simp) HS.out (by rfl) HO.out ?_)
  go_ret
  exact ⟨rfl, HB.out⟩

set_option maxHeartbeats 1000000 in
theorem write_zero (w : World) (g1 g2 : Nat) (v : Int) (h1 : w.cell? ⟨g1, 1, none⟩ = some (.int .i64 0)) :
    Calls Tryd.prog 43 #[.int .i64 v, .pointer (some ⟨g1, 0, none⟩), .pointer (some ⟨g2, 0, none⟩)] w fun e w' => e = .returned (.tuple #[]) ∧ w' = w := by
  go_enter Tryd.func43, Tryd.ntmps43
  go_wp2
  go_end0
  exact ⟨rfl, rfl⟩

set_option maxHeartbeats 1000000 in
theorem write_some (w : World) (g1 g2 s d : Nat) (v : Int) (u : Value) (h1 : w.cell? ⟨g1, 1, none⟩ = some (.int .i64 (d : Int))) (h2 : w.cell? ⟨g2, 0, none⟩ = some (.pointer (some ⟨s, 0, none⟩)))
    (hd : d ≠ 0) (hd2 : d < 32) (hc : w.cell? ⟨s, d, none⟩ = some u) (hf : w.frozen? ⟨s, d, none⟩ = false) :
    Calls Tryd.prog 43 #[.int .i64 v, .pointer (some ⟨g1, 0, none⟩), .pointer (some ⟨g2, 0, none⟩)] w fun e w' => e = .returned (.tuple #[]) ∧ w' = (w.setCell ⟨s, d, none⟩ (.int .i64 v)).drew := by
  go_enter Tryd.func43, Tryd.ntmps43
  go_wp2
  go_region
  go_wp2
  go_end0
  exact ⟨rfl, rfl⟩
end Go.Proofs.YtaodcpdkobhmfaaDoor

namespace Go.Proofs.YtaodcpdkobhmfaaDoor
open Go Go.RowKit

theorem info2 : (Tryd.prog.info? 2).map (fun i => (i.zero, i.size, i.bytes)) = some (some (.int .i64 0), 1, 8) := by kernel_rfl

set_option maxRecDepth 100000 in
set_option maxHeartbeats 1000000 in
theorem tell_full (w : World) (p s n c : Nat) (q : Option Addr) (v : Int) (v0 v1 : Value) (hp : w.cell? ⟨p, 0, none⟩ = some (.pointer (some ⟨s, 0, none⟩))) (ho : w.cell? ⟨s, 37, none⟩ = some (.slice q n c)) (hn : 200 ≤ n) (hn2 : n ≤ 1000)
    (h0 : w.cell? ⟨s, 35, none⟩ = some v0) (h1 : w.cell? ⟨s, 36, none⟩ = some v1) (hf : ∀ i, w.frozen? ⟨s, i, none⟩ = false) :
    Calls Tryd.prog 65 #[.int .i64 v, .pointer (some ⟨p, 0, none⟩)] w fun e w' => e = .returned (.tuple #[]) ∧ w' = (w.setCell ⟨s, 35, none⟩ (.int .i64 7)).setCell ⟨s, 36, none⟩ (.int .i64 0) := by
  go_enter Tryd.func65, Tryd.ntmps65
  go_wp2_with (go_at_call 30; refine (stop_any _ s _ _ v0 v1 h0 h1 hf).mono ?_; rintro e w' ⟨rfl, rfl⟩)
  refine bodyPost_ret (results_none rfl _ _ _) rfl ?_
  exact ⟨rfl, rfl⟩

set_option maxRecDepth 100000 in
set_option maxHeartbeats 2000000 in
theorem tell_more (w : World) (B p s n c : Nat) (q : Option Addr) (v : Int) (xs : List Value) (hp : w.cell? ⟨p, 0, none⟩ = some (.pointer (some ⟨s, 0, none⟩))) (ho : w.cell? ⟨s, 37, none⟩ = some (.slice q n c)) (hn : n < 200)
    (hown : w.ownsRow B 2 1 (.slice q n c) n xs) (hs : s < w.heap.size) (hps : p < w.heap.size) (hne : (Value.slice q n c).ownBlock ≠ some s) (hnp : (Value.slice q n c).ownBlock ≠ some p) (hB : B ≤ w.heap.size) (hf : ∀ i, w.frozen? ⟨s, i, none⟩ = false) :
    Calls Tryd.prog 65 #[.int .i64 v, .pointer (some ⟨p, 0, none⟩)] w fun e w' => e = .returned (.tuple #[]) ∧ ∃ g cap, w'.ownsRow B 2 1 (.slice (some ⟨g, 0, none⟩) (n + 1) cap) (n + 1) (xs ++ [.int .i64 v]) ∧ w'.cell? ⟨s, 37, none⟩ = some (.slice (some ⟨g, 0, none⟩) (n + 1) cap) ∧
      (∀ i, i ≠ 37 → w'.cell? ⟨s, i, none⟩ = w.cell? ⟨s, i, none⟩) ∧ (∀ i, w'.frozen? ⟨s, i, none⟩ = false) ∧ Off (fun k => k = s ∨ (Value.slice q n c).ownBlock = some k) w w' ∧ ((Value.slice q n c).ownBlock = some g ∨ w.heap.size ≤ g) ∧ g < w'.heap.size := by
  obtain ⟨i0, hi0, hz0, hz1, hz2⟩ := info_parts info2
  have HO : Hid (w.ownsRow B 2 1 (.slice q n c) n xs) := hown
  clear hown
  have HW : Hid ((w.alloc (.cells #[.int .i64 v] 2)).drew.ownsRow B 2 1 (.slice q n c) n xs) := (World.ownsRow.alloc HO.out _).drew
  have HN : Hid (∀ (j : Nat) (u : Value), [Value.int .i64 v][j]? = some u → (w.alloc (.cells #[.int .i64 v] 2)).drew.cell? ((⟨w.heap.size, 0, none⟩ : Addr).add j) = some u) := World.news_of_block (cs := #[.int .i64 v]) (t := 2) (fr := (0, 0)) (heap_alloc_last w _)
  have H1 : Hid (∀ u ∈ [Value.int .i64 v], u.oneCell' = true) := fun u hu => by simp at hu; subst hu; rfl
  have HSZ : Hid (B ≤ (w.alloc (.cells #[.int .i64 v] 2)).drew.heap.size) := by show _ ≤ _; simp; omega
  have HC : Hid (∀ (w1 : World), (w.alloc (.cells #[.int .i64 v] 2)).drew.grownBy w1 (Value.slice q n c).ownBlock → (∀ i, w1.cell? ⟨s, i, none⟩ = w.cell? ⟨s, i, none⟩) ∧ (∀ i, w1.frozen? ⟨s, i, none⟩ = false) ∧ Off (fun k => k = s ∨ (Value.slice q n c).ownBlock = some k) w w1) := fun w1 hg => by
    refine ⟨fun i => ?_, fun i => ?_, ?_⟩
    · rw [hg.cell_far ⟨s, i, none⟩ (by simp; omega) (fun e => hne e.symm)]
      exact World.cell?_alloc_lt _ _ _ hs
    · rw [hg.frozen_far ⟨s, i, none⟩ (by simp; omega) (fun e => hne e.symm)]
      exact (frozen?_alloc_cells w _ _ _).trans (hf i)
    · have h0 : Off (fun k => k = s ∨ (Value.slice q n c).ownBlock = some k) w (w.alloc (.cells #[.int .i64 v] 2)).drew := ((Off.refl _ _).alloc _).drew
      exact h0.trans ⟨hg.os, hg.tape, hg.output, hg.size, fun k hk hs' => hg.block k hk (fun e => hs' (.inr e.symm))⟩
  have HP : Hid (∀ (w1 : World), (w.alloc (.cells #[.int .i64 v] 2)).drew.grownBy w1 (Value.slice q n c).ownBlock → w1.cell? ⟨p, 0, none⟩ = some (.pointer (some ⟨s, 0, none⟩))) := fun w1 hg => by
    rw [hg.cell_far ⟨p, 0, none⟩ (by simp; omega) (fun e => hnp e.symm)]
    exact (World.cell?_alloc_lt _ _ _ hps).trans hp
  have HNE : Hid ((Value.slice q n c).ownBlock ≠ some s) := hne
  clear hne hnp
  go_enter Tryd.func65, Tryd.ntmps65
  go_wp2_with fail
  go_region_law (refine step_append_lies _ rfl (.tmp 17) (.tmp 19) 23 rfl B 2 i0 (.int .i64 0) 1 8 Tryd.underlying23 hi0 hz0 hz1 hz2 rfl (by decide) (.slice q n c) n xs (by simp [Act.eval]) HW.out ⟨w.heap.size, 0, none⟩ 1 1 [.int .i64 v] (by simp [Act.eval]) rfl HN.out H1.out (by omega) (by unfold maxLen; omega) (by omega) HSZ.out _ rfl ?_; intro g cap w1 hown hgrow hat hlt; have HH : Hid ((∀ i, w1.cell? ⟨s, i, none⟩ = w.cell? ⟨s, i, none⟩) ∧ (∀ i, w1.frozen? ⟨s, i, none⟩ = false) ∧ Off (fun k => k = s ∨ (Value.slice q n c).ownBlock = some k) w w1) := HC.out w1 hgrow; have cs : w1.cell? ⟨s, 37, none⟩ = some (.slice q n c) := (HH.out.1 37).trans ho; have fs := HH.out.2.1; have cp : w1.cell? ⟨p, 0, none⟩ = some (.pointer (some ⟨s, 0, none⟩)) := HP.out w1 hgrow; have HA : Hid (_ ∨ _) := hat; have HX : Hid (World.ownsRow _ _ _ _ _ _ _) := hown; clear hgrow hat hown)
  all_goals
    go_wp2
    go_end0
    refine ⟨rfl, _, _, ?_, World.cell?_setCell_same _ _ _ cs, fun i hi => ?_, fun i => ?_, HH.out.2.2.setCell (fun _ => .inl rfl) _, ?_, ?_⟩
    · refine ownsRow_setCell_other HX.out ?_ _
      rcases HA.out with h | h
      · rw [h] at HNE
        exact HNE.out
      · intro e
        simp [Value.ownBlock] at e
        simp at h
        omega
    · rw [World.cell?_setCell_other _ _ _ _ (by intro h; injection h with h1 h2; exact hi h2.symm)]
      exact HH.out.1 i
    · rw [World.frozen?_setCell]; exact HH.out.2.1 i
    · rcases HA.out with h | h
      · exact .inl h
      · right; simp at h; omega
    · simpa [World.setCell] using hlt
end Go.Proofs.YtaodcpdkobhmfaaDoor
