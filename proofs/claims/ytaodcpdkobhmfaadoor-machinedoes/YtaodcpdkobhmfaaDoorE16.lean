/- The document's Decode, whole: of every word what the program's Decode reads. -/
import Derived.Test.YtaodcpdkobhmfaaDoorE14
namespace Go.Proofs.YtaodcpdkobhmfaaDoor
open Go Go.RowKit
def chK : Nat → List UInt8
  | 0 => [100, 97, 98]
  | 1 => [100, 97]
  | 2 => [100, 97]
  | 3 => [97, 98]
  | 4 => [97, 98]
  | 5 => [100]
  | 6 => [100]
  | 7 => []
  | _ => []
def nK (W : Int) : Nat → Int
  | 1 => sgD 12 (nsum W (fun j => ([0] : List Nat).getD j 0) (fun j => ([12] : List Nat).getD j 0) (fun j => ([20] : List Nat).getD j 0) 1)
  | 2 => sgD 0 (nsum W (fun j => ([0] : List Nat).getD j 0) (fun j => ([6] : List Nat).getD j 0) (fun j => ([20] : List Nat).getD j 0) 1)
  | 3 => sgD 12 (nsum W (fun j => ([0, 5] : List Nat).getD j 0) (fun j => ([5, 7] : List Nat).getD j 0) (fun j => ([7, 25] : List Nat).getD j 0) 2)
  | 4 => sgD 13 (nsum W (fun j => ([11, 1, 5, 12] : List Nat).getD j 0) (fun j => ([1, 4, 6, 1] : List Nat).getD j 0) (fun j => ([7, 8, 25, 31] : List Nat).getD j 0) 4)
  | 5 => sgD 32 (nsum W (fun j => ([12] : List Nat).getD j 0) (fun j => ([20] : List Nat).getD j 0) (fun j => ([12] : List Nat).getD j 0) 1)
  | 6 => sgD 21 (nsum W (fun j => ([12, 11, 1, 20] : List Nat).getD j 0) (fun j => ([8, 1, 10, 1] : List Nat).getD j 0) (fun j => ([12, 20, 21, 31] : List Nat).getD j 0) 4)
  | _ => 0
theorem opd_0 (j W l m h : Int) (hF : FormAt j 82 l m h) : OpD j W l (rgV W [100, 97, 98]).1 (rgV W [100, 97, 98]).2.1 (rgV W [100, 97, 98]).2.2 (0) := by
  exact ⟨⟨82, m, h, 0, 1, ⟨#[100, 97, 98]⟩, hF, has_0, by decide, signs_0, .inl rfl, rfl, .inl ⟨pieces_0, rfl, rfl⟩⟩⟩
theorem opd_1 (j W l m h : Int) (hF : FormAt j 73 l m h) : OpD j W l (rgV W [100, 97]).1 (rgV W [100, 97]).2.1 (rgV W [100, 97]).2.2 (sgD 12 (nsum W (fun j => ([0] : List Nat).getD j 0) (fun j => ([12] : List Nat).getD j 0) (fun j => ([20] : List Nat).getD j 0) 1)) := by
  have hcs : ∀ j, j < 1 → (#[.int .i64 0, .int .i64 12, .int .i64 20] : Array Value)[j * 3]? = some (.int .i64 ((([0] : List Nat).getD j 0 : Nat) : Int)) ∧ (#[.int .i64 0, .int .i64 12, .int .i64 20] : Array Value)[j * 3 + 1]? = some (.int .i64 ((([12] : List Nat).getD j 0 : Nat) : Int)) ∧ (#[.int .i64 0, .int .i64 12, .int .i64 20] : Array Value)[j * 3 + 2]? = some (.int .i64 ((([20] : List Nat).getD j 0 : Nat) : Int)) := by
    intro j hj
    have hc : j = 0 := by omega
    rcases hc with rfl <;> exact ⟨rfl, rfl, rfl⟩
  exact ⟨⟨73, m, h, 12, 1, ⟨#[100, 97]⟩, hF, has_1, by decide, signs_1, by omega, rfl, .inr ⟨1, _, (fun j => ([0] : List Nat).getD j 0), (fun j => ([12] : List Nat).getD j 0), (fun j => ([20] : List Nat).getD j 0), by decide, pieces_1, hcs, by decide, rfl⟩⟩⟩
theorem opd_2 (j W l m h : Int) (hF : FormAt j 72 l m h) : OpD j W l (rgV W [100, 97]).1 (rgV W [100, 97]).2.1 (rgV W [100, 97]).2.2 (sgD 0 (nsum W (fun j => ([0] : List Nat).getD j 0) (fun j => ([6] : List Nat).getD j 0) (fun j => ([20] : List Nat).getD j 0) 1)) := by
  have hcs : ∀ j, j < 1 → (#[.int .i64 0, .int .i64 6, .int .i64 20] : Array Value)[j * 3]? = some (.int .i64 ((([0] : List Nat).getD j 0 : Nat) : Int)) ∧ (#[.int .i64 0, .int .i64 6, .int .i64 20] : Array Value)[j * 3 + 1]? = some (.int .i64 ((([6] : List Nat).getD j 0 : Nat) : Int)) ∧ (#[.int .i64 0, .int .i64 6, .int .i64 20] : Array Value)[j * 3 + 2]? = some (.int .i64 ((([20] : List Nat).getD j 0 : Nat) : Int)) := by
    intro j hj
    have hc : j = 0 := by omega
    rcases hc with rfl <;> exact ⟨rfl, rfl, rfl⟩
  exact ⟨⟨72, m, h, 0, 1, ⟨#[100, 97]⟩, hF, has_2, by decide, signs_2, by omega, rfl, .inr ⟨1, _, (fun j => ([0] : List Nat).getD j 0), (fun j => ([6] : List Nat).getD j 0), (fun j => ([20] : List Nat).getD j 0), by decide, pieces_2, hcs, by decide, rfl⟩⟩⟩
theorem opd_3 (j W l m h : Int) (hF : FormAt j 83 l m h) : OpD j W l (rgV W [97, 98]).1 (rgV W [97, 98]).2.1 (rgV W [97, 98]).2.2 (sgD 12 (nsum W (fun j => ([0, 5] : List Nat).getD j 0) (fun j => ([5, 7] : List Nat).getD j 0) (fun j => ([7, 25] : List Nat).getD j 0) 2)) := by
  have hcs : ∀ j, j < 2 → (#[.int .i64 0, .int .i64 5, .int .i64 7, .int .i64 5, .int .i64 7, .int .i64 25] : Array Value)[j * 3]? = some (.int .i64 ((([0, 5] : List Nat).getD j 0 : Nat) : Int)) ∧ (#[.int .i64 0, .int .i64 5, .int .i64 7, .int .i64 5, .int .i64 7, .int .i64 25] : Array Value)[j * 3 + 1]? = some (.int .i64 ((([5, 7] : List Nat).getD j 0 : Nat) : Int)) ∧ (#[.int .i64 0, .int .i64 5, .int .i64 7, .int .i64 5, .int .i64 7, .int .i64 25] : Array Value)[j * 3 + 2]? = some (.int .i64 ((([7, 25] : List Nat).getD j 0 : Nat) : Int)) := by
    intro j hj
    have hc : j = 0 ∨ j = 1 := by omega
    rcases hc with rfl | rfl <;> exact ⟨rfl, rfl, rfl⟩
  exact ⟨⟨83, m, h, 12, 1, ⟨#[97, 98]⟩, hF, has_3, by decide, signs_3, by omega, rfl, .inr ⟨2, _, (fun j => ([0, 5] : List Nat).getD j 0), (fun j => ([5, 7] : List Nat).getD j 0), (fun j => ([7, 25] : List Nat).getD j 0), by decide, pieces_3, hcs, by decide, rfl⟩⟩⟩
theorem opd_4 (j W l m h : Int) (hF : FormAt j 66 l m h) : OpD j W l (rgV W [97, 98]).1 (rgV W [97, 98]).2.1 (rgV W [97, 98]).2.2 (sgD 13 (nsum W (fun j => ([11, 1, 5, 12] : List Nat).getD j 0) (fun j => ([1, 4, 6, 1] : List Nat).getD j 0) (fun j => ([7, 8, 25, 31] : List Nat).getD j 0) 4)) := by
  have hcs : ∀ j, j < 4 → (#[.int .i64 11, .int .i64 1, .int .i64 7, .int .i64 1, .int .i64 4, .int .i64 8, .int .i64 5, .int .i64 6, .int .i64 25, .int .i64 12, .int .i64 1, .int .i64 31] : Array Value)[j * 3]? = some (.int .i64 ((([11, 1, 5, 12] : List Nat).getD j 0 : Nat) : Int)) ∧ (#[.int .i64 11, .int .i64 1, .int .i64 7, .int .i64 1, .int .i64 4, .int .i64 8, .int .i64 5, .int .i64 6, .int .i64 25, .int .i64 12, .int .i64 1, .int .i64 31] : Array Value)[j * 3 + 1]? = some (.int .i64 ((([1, 4, 6, 1] : List Nat).getD j 0 : Nat) : Int)) ∧ (#[.int .i64 11, .int .i64 1, .int .i64 7, .int .i64 1, .int .i64 4, .int .i64 8, .int .i64 5, .int .i64 6, .int .i64 25, .int .i64 12, .int .i64 1, .int .i64 31] : Array Value)[j * 3 + 2]? = some (.int .i64 ((([7, 8, 25, 31] : List Nat).getD j 0 : Nat) : Int)) := by
    intro j hj
    have hc : j = 0 ∨ j = 1 ∨ j = 2 ∨ j = 3 := by omega
    rcases hc with rfl | rfl | rfl | rfl <;> exact ⟨rfl, rfl, rfl⟩
  exact ⟨⟨66, m, h, 13, 2, ⟨#[97, 98]⟩, hF, has_4, by decide, signs_4, by omega, rfl, .inr ⟨4, _, (fun j => ([11, 1, 5, 12] : List Nat).getD j 0), (fun j => ([1, 4, 6, 1] : List Nat).getD j 0), (fun j => ([7, 8, 25, 31] : List Nat).getD j 0), by decide, pieces_4, hcs, by decide, rfl⟩⟩⟩
theorem opd_5 (j W l m h : Int) (hF : FormAt j 85 l m h) : OpD j W l (rgV W [100]).1 (rgV W [100]).2.1 (rgV W [100]).2.2 (sgD 32 (nsum W (fun j => ([12] : List Nat).getD j 0) (fun j => ([20] : List Nat).getD j 0) (fun j => ([12] : List Nat).getD j 0) 1)) := by
  have hcs : ∀ j, j < 1 → (#[.int .i64 12, .int .i64 20, .int .i64 12] : Array Value)[j * 3]? = some (.int .i64 ((([12] : List Nat).getD j 0 : Nat) : Int)) ∧ (#[.int .i64 12, .int .i64 20, .int .i64 12] : Array Value)[j * 3 + 1]? = some (.int .i64 ((([20] : List Nat).getD j 0 : Nat) : Int)) ∧ (#[.int .i64 12, .int .i64 20, .int .i64 12] : Array Value)[j * 3 + 2]? = some (.int .i64 ((([12] : List Nat).getD j 0 : Nat) : Int)) := by
    intro j hj
    have hc : j = 0 := by omega
    rcases hc with rfl <;> exact ⟨rfl, rfl, rfl⟩
  exact ⟨⟨85, m, h, 32, 4096, ⟨#[100]⟩, hF, has_5, by decide, signs_5, by omega, rfl, .inr ⟨1, _, (fun j => ([12] : List Nat).getD j 0), (fun j => ([20] : List Nat).getD j 0), (fun j => ([12] : List Nat).getD j 0), by decide, pieces_5, hcs, by decide, rfl⟩⟩⟩
theorem opd_6 (j W l m h : Int) (hF : FormAt j 74 l m h) : OpD j W l (rgV W [100]).1 (rgV W [100]).2.1 (rgV W [100]).2.2 (sgD 21 (nsum W (fun j => ([12, 11, 1, 20] : List Nat).getD j 0) (fun j => ([8, 1, 10, 1] : List Nat).getD j 0) (fun j => ([12, 20, 21, 31] : List Nat).getD j 0) 4)) := by
  have hcs : ∀ j, j < 4 → (#[.int .i64 12, .int .i64 8, .int .i64 12, .int .i64 11, .int .i64 1, .int .i64 20, .int .i64 1, .int .i64 10, .int .i64 21, .int .i64 20, .int .i64 1, .int .i64 31] : Array Value)[j * 3]? = some (.int .i64 ((([12, 11, 1, 20] : List Nat).getD j 0 : Nat) : Int)) ∧ (#[.int .i64 12, .int .i64 8, .int .i64 12, .int .i64 11, .int .i64 1, .int .i64 20, .int .i64 1, .int .i64 10, .int .i64 21, .int .i64 20, .int .i64 1, .int .i64 31] : Array Value)[j * 3 + 1]? = some (.int .i64 ((([8, 1, 10, 1] : List Nat).getD j 0 : Nat) : Int)) ∧ (#[.int .i64 12, .int .i64 8, .int .i64 12, .int .i64 11, .int .i64 1, .int .i64 20, .int .i64 1, .int .i64 10, .int .i64 21, .int .i64 20, .int .i64 1, .int .i64 31] : Array Value)[j * 3 + 2]? = some (.int .i64 ((([12, 20, 21, 31] : List Nat).getD j 0 : Nat) : Int)) := by
    intro j hj
    have hc : j = 0 ∨ j = 1 ∨ j = 2 ∨ j = 3 := by omega
    rcases hc with rfl | rfl | rfl | rfl <;> exact ⟨rfl, rfl, rfl⟩
  exact ⟨⟨74, m, h, 21, 2, ⟨#[100]⟩, hF, has_6, by decide, signs_6, by omega, rfl, .inr ⟨4, _, (fun j => ([12, 11, 1, 20] : List Nat).getD j 0), (fun j => ([8, 1, 10, 1] : List Nat).getD j 0), (fun j => ([12, 20, 21, 31] : List Nat).getD j 0), by decide, pieces_6, hcs, by decide, rfl⟩⟩⟩
theorem opd_7 (j W l m h : Int) (hF : FormAt j 69 l m h) : OpD j W l (rgV W []).1 (rgV W []).2.1 (rgV W []).2.2 (0) := by
  exact ⟨⟨69, m, h, 0, 1, ⟨#[]⟩, hF, has_7, by decide, signs_7, .inl rfl, rfl, .inl ⟨pieces_7, rfl, rfl⟩⟩⟩
theorem opd_all (j : Nat) (h1 : 1 ≤ j) (h2 : j ≤ 31) (W : Int) : OpD j W (T.lo j) (rgV W (chK (T.kd j))).1 (rgV W (chK (T.kd j))).2.1 (rgV W (chK (T.kd j))).2.2 (nK W (T.kd j)) := by
  rcases lt32 h1 h2 with rfl | rfl | rfl | rfl | rfl | rfl | rfl | rfl | rfl | rfl | rfl | rfl | rfl | rfl | rfl | rfl | rfl | rfl | rfl | rfl | rfl | rfl | rfl | rfl | rfl | rfl | rfl | rfl | rfl | rfl | rfl
  · exact opd_0 _ W _ _ _ formOf_1
  · exact opd_0 _ W _ _ _ formOf_2
  · exact opd_0 _ W _ _ _ formOf_3
  · exact opd_0 _ W _ _ _ formOf_4
  · exact opd_0 _ W _ _ _ formOf_5
  · exact opd_0 _ W _ _ _ formOf_6
  · exact opd_0 _ W _ _ _ formOf_7
  · exact opd_0 _ W _ _ _ formOf_8
  · exact opd_0 _ W _ _ _ formOf_9
  · exact opd_0 _ W _ _ _ formOf_10
  · exact opd_0 _ W _ _ _ formOf_11
  · exact opd_0 _ W _ _ _ formOf_12
  · exact opd_0 _ W _ _ _ formOf_13
  · exact opd_1 _ W _ _ _ formOf_14
  · exact opd_1 _ W _ _ _ formOf_15
  · exact opd_1 _ W _ _ _ formOf_16
  · exact opd_1 _ W _ _ _ formOf_17
  · exact opd_1 _ W _ _ _ formOf_18
  · exact opd_2 _ W _ _ _ formOf_19
  · exact opd_2 _ W _ _ _ formOf_20
  · exact opd_2 _ W _ _ _ formOf_21
  · exact opd_1 _ W _ _ _ formOf_22
  · exact opd_1 _ W _ _ _ formOf_23
  · exact opd_3 _ W _ _ _ formOf_24
  · exact opd_4 _ W _ _ _ formOf_25
  · exact opd_4 _ W _ _ _ formOf_26
  · exact opd_4 _ W _ _ _ formOf_27
  · exact opd_4 _ W _ _ _ formOf_28
  · exact opd_5 _ W _ _ _ formOf_29
  · exact opd_6 _ W _ _ _ formOf_30
  · exact opd_7 _ W _ _ _ formOf_31
theorem cand_all (j : Nat) (h1 : 1 ≤ j) (h2 : j ≤ 31) (d a b n W : Int) (hr : rightB d a b n (T.sh (T.kd j)) = true) (hW : encV (T.lo j) (T.md j) (T.hg j) d a b n (T.sh (T.kd j)) = W) :
    W % 128 = T.lo j ∧ rgV W (chK (T.kd j)) = (d, a, b) ∧ nK W (T.kd j) = n := by
  rcases lt32 h1 h2 with rfl | rfl | rfl | rfl | rfl | rfl | rfl | rfl | rfl | rfl | rfl | rfl | rfl | rfl | rfl | rfl | rfl | rfl | rfl | rfl | rfl | rfl | rfl | rfl | rfl | rfl | rfl | rfl | rfl | rfl | rfl
  · exact cand_0 d a b n W 51 0 0 (by decide) (by decide) (by decide) hr hW
  · exact cand_0 d a b n W 51 0 32 (by decide) (by decide) (by decide) hr hW
  · exact cand_0 d a b n W 51 0 1 (by decide) (by decide) (by decide) hr hW
  · exact cand_0 d a b n W 51 4 1 (by decide) (by decide) (by decide) hr hW
  · exact cand_0 d a b n W 51 6 1 (by decide) (by decide) (by decide) hr hW
  · exact cand_0 d a b n W 51 7 0 (by decide) (by decide) (by decide) hr hW
  · exact cand_0 d a b n W 51 6 0 (by decide) (by decide) (by decide) hr hW
  · exact cand_0 d a b n W 51 4 0 (by decide) (by decide) (by decide) hr hW
  · exact cand_0 d a b n W 51 2 0 (by decide) (by decide) (by decide) hr hW
  · exact cand_0 d a b n W 51 3 0 (by decide) (by decide) (by decide) hr hW
  · exact cand_0 d a b n W 51 1 0 (by decide) (by decide) (by decide) hr hW
  · exact cand_0 d a b n W 51 5 0 (by decide) (by decide) (by decide) hr hW
  · exact cand_0 d a b n W 51 5 32 (by decide) (by decide) (by decide) hr hW
  · exact cand_1 d a b n W 19 0 (by decide) (by decide) hr hW
  · exact cand_1 d a b n W 19 7 (by decide) (by decide) hr hW
  · exact cand_1 d a b n W 19 6 (by decide) (by decide) hr hW
  · exact cand_1 d a b n W 19 4 (by decide) (by decide) hr hW
  · exact cand_1 d a b n W 19 2 (by decide) (by decide) hr hW
  · exact cand_2 d a b n W 19 1 0 (by decide) (by decide) (by decide) hr hW
  · exact cand_2 d a b n W 19 5 0 (by decide) (by decide) (by decide) hr hW
  · exact cand_2 d a b n W 19 5 16 (by decide) (by decide) (by decide) hr hW
  · exact cand_1 d a b n W 3 3 (by decide) (by decide) hr hW
  · exact cand_1 d a b n W 103 0 (by decide) (by decide) hr hW
  · exact cand_3 d a b n W 35 3 (by decide) (by decide) hr hW
  · exact cand_4 d a b n W 99 0 (by decide) (by decide) hr hW
  · exact cand_4 d a b n W 99 1 (by decide) (by decide) hr hW
  · exact cand_4 d a b n W 99 4 (by decide) (by decide) hr hW
  · exact cand_4 d a b n W 99 5 (by decide) (by decide) hr hW
  · exact cand_5 d a b n W 55 (by decide) hr hW
  · exact cand_6 d a b n W 111 (by decide) hr hW
  · exact cand_7 d a b n W 115 (by decide) hr hW
theorem decdoc (W : Int) (R : Value) (w : World) (hW0 : 0 ≤ W) (hW1 : W < 4294967296)
    (hA : ∀ o d a b n : Int, Rt o d a b n = true → Wd o d a b n = W → R = .tuple #[instV o d a b n, .int .i64 0])
    (hB : (∀ o d a b n : Int, Rt o d a b n = true → Wd o d a b n ≠ W) → R = .tuple #[.agg zero5, .int .i64 3]) :
    Calls Tryd.prog 32 #[.int .u32 W] w fun e w' => e = .returned R ∧ Below w.heap.size w w' := by
  refine decdoc_core W R w hW0 hW1 (fun j => T.lo j) (fun j => (rgV W (chK (T.kd j))).1) (fun j => (rgV W (chK (T.kd j))).2.1) (fun j => (rgV W (chK (T.kd j))).2.2) (fun j => nK W (T.kd j))
    (fun j => 1 ≤ j ∧ j ≤ 31 ∧ ∃ d a b n : Int, Rt j d a b n = true ∧ Wd j d a b n = W) (fun j h1 h2 => opd_all j h1 h2 W) ?_ (fun j _ _ hr hw => hA _ _ _ _ _ hr hw) ?_
  · rintro j ⟨h1, h2, d, a, b, n, hr, hw⟩
    refine ⟨h2, fun _ => ?_⟩
    obtain ⟨_, _, h3⟩ := Rt_split hr
    rw [Int.toNat_natCast] at h3
    have hw' := hw
    unfold Wd at hw'
    rw [Int.toNat_natCast] at hw'
    obtain ⟨c1, c2, c3⟩ := cand_all j h1 h2 d a b n W h3 hw'
    refine ⟨c1, ?_, ?_⟩
    · show Rt j (rgV W (chK (T.kd j))).1 (rgV W (chK (T.kd j))).2.1 (rgV W (chK (T.kd j))).2.2 (nK W (T.kd j)) = true
      rw [c2, c3]; exact hr
    · show Wd j (rgV W (chK (T.kd j))).1 (rgV W (chK (T.kd j))).2.1 (rgV W (chK (T.kd j))).2.2 (nK W (T.kd j)) = W
      rw [c2, c3]; exact hw
  · intro hn
    refine hB fun o d a b n hr hw => ?_
    obtain ⟨h1, h2, _⟩ := Rt_split hr
    obtain ⟨k, rfl⟩ := Int.eq_ofNat_of_zero_le (show 0 ≤ o by omega)
    exact hn k (by omega) ⟨by omega, by omega, d, a, b, n, hr, hw⟩
theorem decdoc_ok (o d a b n : Int) (w : World) (hr : Rt o d a b n = true) :
    Calls Tryd.prog 32 #[.int .u32 (Wd o d a b n)] w fun e w' => e = .returned (.tuple #[instV o d a b n, .int .i64 0]) ∧ Below w.heap.size w w' := by
  obtain ⟨r0, r1⟩ := Wd_range o d a b n hr
  refine decdoc _ _ w r0 r1 (fun o' d' a' b' n' hr' hw => ?_) (fun h => absurd rfl (h o d a b n hr))
  obtain ⟨rfl, rfl, rfl, rfl, rfl⟩ := Wd_inj hr' hr hw
  rfl
theorem decdoc_no (W : Int) (w : World) (hW0 : 0 ≤ W) (hW1 : W < 4294967296) (hn : ∀ o d a b n : Int, Rt o d a b n = true → Wd o d a b n ≠ W) :
    Calls Tryd.prog 32 #[.int .u32 W] w fun e w' => e = .returned (.tuple #[.agg zero5, .int .i64 3]) ∧ Below w.heap.size w w' :=
  decdoc W _ w hW0 hW1 (fun o d a b n hr hw => absurd hw (hn o d a b n hr)) (fun _ => rfl)
end Go.Proofs.YtaodcpdkobhmfaaDoor
