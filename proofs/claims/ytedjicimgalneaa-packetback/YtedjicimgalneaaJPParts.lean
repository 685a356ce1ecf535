/-
  Joined: PParts PPartsB PCheck PSize OBytes OLay OWri OPut OPutB ONext ORead OReadB OGet OGetB PTake PPutA PDocA PHCheck PHSends PHPut PPut.
-/
import Derived.Test.YtedjicimgalneaaJWiden
import Derived.Test.YtedjicimgalneaaJRMulB
import Derived.Test.YtedjicimgalneaaJCTab
import Derived.Test.YtedjicimgalneaaJOMem
import Derived.Deep.RegionLaw
import Derived.KernelRfl
import Derived.Deep.RegionWith
import Derived.OrdersHeld
import Derived.Deep.QuietTactic
import Derived.BigQuiet
namespace Go.Proofs.Ytedjicimgalneaa
open Go.RowKit
def kindsV : Array Value := #[.int .i64 0, .bool false, .bool false, .int .i64 3, .bool false, .bool true, .int .i64 2, .bool false, .bool false, .int .i64 1, .bool false, .bool false, .int .i64 1, .bool true, .bool false, .int .i64 1, .bool false, .bool true]
theorem kindsV_info : (Try.prog.info? 67).map (·.size) = some kindsV.size := by kernel_rfl
set_option maxRecDepth 100000 in
set_option maxHeartbeats 1000000 in
theorem pkinds_any (w : World) : Calls Try.prog 44 #[] w fun e w' => e = .returned (.agg kindsV) ∧ Below w.heap.size w w' := by
  unfold kindsV
  go_enter Try.func44, Try.ntmps44
  go_wp2
  refine bodyPost_ret (v := .agg kindsV) (results_cell_row rfl _ _ w.heap.size _ kindsV (0, 0) _ rfl (heap_alloc_last w _) Try.underlying67 rfl kindsV_info) rfl ?_
  exact ⟨rfl, below_new w _⟩
set_option maxRecDepth 100000 in
set_option maxHeartbeats 1000000 in
theorem pmaybe_any (n : Int) (t : Bool) (lo hi : Int) (w : World) : Calls Try.prog 37 #[.int .i64 n, .bool t, .int .i64 lo, .int .i64 hi] w fun e w' => e = .returned (.bool (if t = true then decide (lo ≤ n ∧ n ≤ hi) else decide (n = 0))) ∧ w' = w := by
  cases t with
  | false =>
    by_cases h : n = 0
    · rw [if_neg (by decide), decide_eq_true h]
      go_enter Try.func37, Try.ntmps37
      go_wp2
      go_ret
      exact ⟨rfl, rfl⟩
    · rw [if_neg (by decide), decide_eq_false h]
      have hb : (n == 0) = false := beq_eq_false_iff_ne.2 h
      clear h
      go_enter Try.func37, Try.ntmps37
      go_wp2
      go_ret
      exact ⟨rfl, rfl⟩
  | true =>
    by_cases h1 : lo ≤ n
    · by_cases h2 : n ≤ hi
      · rw [if_pos rfl, decide_eq_true ⟨h1, h2⟩]
        go_enter Try.func37, Try.ntmps37
        go_wp2
        go_ret
        exact ⟨rfl, rfl⟩
      · rw [if_pos rfl, decide_eq_false (fun h => h2 h.2)]
        go_enter Try.func37, Try.ntmps37
        go_wp2
        go_ret
        exact ⟨rfl, rfl⟩
    · rw [if_pos rfl, decide_eq_false (fun h => h1 h.1)]
      go_enter Try.func37, Try.ntmps37
      go_wp2
      go_ret
      exact ⟨rfl, rfl⟩
set_option maxRecDepth 100000 in
set_option maxHeartbeats 1000000 in
theorem pnumbers_any (k s b i r : Int) (sv : Value) (w : World) (h : ∃ a n c, sv = .slice a n c) : Calls Try.prog 29 #[.agg #[.int .i64 k, .int .i64 s, .int .i64 b, .int .i64 i, .int .i64 r, sv]] w fun e w' => e = .returned (.agg #[.int .i64 s, .int .i64 b, .int .i64 i]) ∧ Below w.heap.size w w' := by
  obtain ⟨a, n, c, rfl⟩ := h
  go_enter Try.func29, Try.ntmps29
  go_wp2
  refine bodyPost_ret (v := .agg #[.int .i64 s, .int .i64 b, .int .i64 i]) (results_cell_row rfl _ _ (w.heap.size + 1) _ #[.int .i64 s, .int .i64 b, .int .i64 i] (0, 0) _ rfl (Box.put (w := w.alloc (.cells #[.int .i64 k, .int .i64 s, .int .i64 b, .int .i64 i, .int .i64 r, .slice a n c] 24)) (k := w.heap.size + 1) (.cells #[.int .i64 s, .int .i64 b, .int .i64 i] 47) (by simp)).what Try.underlying47 rfl (by kernel_rfl)) rfl ?_
  have B1 := below_new w (.cells #[.int .i64 k, .int .i64 s, .int .i64 b, .int .i64 i, .int .i64 r, .slice a n c] 24)
  exact ⟨rfl, B1.trans ((below_new _ _).mono B1.size)⟩
def partsV (k : Int) : Value := .agg #[.int .i64 (nums k), .bool (decide (k = 4)), .bool (decide (k = 1 ∨ k = 5))]
theorem kindsV_one : kindsV.all (·.oneCell') = true := by kernel_rfl
theorem kinds_cells {V : World} {g : Nat} (h : Box V g (.cells kindsV 67)) (j : Nat) (hj : j < 6) : V.cell? ⟨g, j * 3, none⟩ = some (.int .i64 (nums j)) ∧ V.cell? ⟨g, j * 3 + 1, none⟩ = some (.bool (decide ((j : Int) = 4))) ∧ V.cell? ⟨g, j * 3 + 2, none⟩ = some (.bool (decide ((j : Int) = 1 ∨ (j : Int) = 5))) := by
  have e := fun i => cell_of_heap h.what i
  have : j = 0 ∨ j = 1 ∨ j = 2 ∨ j = 3 ∨ j = 4 ∨ j = 5 := by omega
  rcases this with rfl | rfl | rfl | rfl | rfl | rfl <;> exact ⟨(e _).trans rfl, (e _).trans rfl, (e _).trans rfl⟩
set_option maxRecDepth 100000 in
set_option maxHeartbeats 1000000 in
theorem pparts_in (j : Nat) (hj : j < 6) (w : World) : Calls Try.prog 28 #[.int .i64 j] w fun e w' => e = .returned (partsV j) ∧ Below w.heap.size w w' := by
  have B1 := below_new w (.cells #[.int .i64 0, .bool false, .bool false] 45)
  have R1 := Box.new w (.cells #[.int .i64 0, .bool false, .bool false] 45)
  have hk := pkinds_any (w.alloc (.cells #[.int .i64 0, .bool false, .bool false] 45))
  have HB := hide B1
  have HR := hide R1
  clear B1 R1
  have hj6 : (j : Int) < 6 := by omega
  have hj0 : ¬ (j : Int) < 0 := by omega
  have hj6' : ¬ 6 ≤ (j : Int) := by omega
  unfold partsV
  obtain ⟨N, hN⟩ : ∃ N, nums j = N := ⟨_, rfl⟩
  obtain ⟨R, hR⟩ : ∃ R, decide ((j : Int) = 4) = R := ⟨_, rfl⟩
  obtain ⟨D, hD⟩ : ∃ D, decide ((j : Int) = 1 ∨ (j : Int) = 5) = D := ⟨_, rfl⟩
  rw [hN, hR, hD]
  have HN := hide hN
  have HRR := hide hR
  have HD := hide hD
  clear hN hR hD
  go_enter Try.func28, Try.ntmps28
  go_wp2_with fail
  refine hk.mono ?_
  rintro e w1 ⟨rfl, b1⟩
  have KB := below_new w1 (.cells kindsV 67)
  have R2 := (HR.out.below b1).below KB
  have HB2 := hide ((HB.out.trans (b1.mono HB.out.size)).trans (KB.mono (HB.out.trans (b1.mono HB.out.size)).size))
  obtain ⟨c0, c1, c2⟩ := kinds_cells (Box.new w1 (.cells kindsV 67)) j hj
  obtain ⟨g0, g1, g2, f0, f1, f2⟩ := three_of R2
  have HR2 := hide R2
  rw [HN.out] at c0
  rw [HRR.out] at c1
  rw [HD.out] at c2
  clear hk b1 KB R2
  go_wp2_with (refine wpList_store_row rfl 67 (.tmp 3) (.tmp 4) rfl w1.heap.size kindsV rfl rfl 67 _ (heap_alloc_last w1 _) kindsV_info rfl kindsV_one ?_; rw [World.setRow_alloc_new])
  refine bodyPost_ret (v := .agg #[.int .i64 N, .bool R, .bool D]) (results_cell_row rfl _ _ w.heap.size _ #[.int .i64 N, .bool R, .bool D] (0, 0) _ rfl (Box.set3 _ _ _ HR2.out).what Try.underlying45 rfl (by kernel_rfl)) rfl ?_
  exact ⟨rfl, ((HB2.out.setCell (p := ⟨w.heap.size, 0, none⟩) (Nat.le_refl _) _).setCell (p := ⟨w.heap.size, 1, none⟩) (Nat.le_refl _) _).setCell (p := ⟨w.heap.size, 2, none⟩) (Nat.le_refl _) _⟩
set_option maxRecDepth 100000 in
set_option maxHeartbeats 1000000 in
theorem pparts_out (k : Int) (h : k < 0 ∨ 6 ≤ k) (w : World) : Calls Try.prog 28 #[.int .i64 k] w fun e w' => e = .returned (partsV k) ∧ Below w.heap.size w w' := by
  have B1 := below_new w (.cells #[.int .i64 0, .bool false, .bool false] 45)
  have R1 := Box.new w (.cells #[.int .i64 0, .bool false, .bool false] 45)
  have hk := pkinds_any (w.alloc (.cells #[.int .i64 0, .bool false, .bool false] 45))
  have HB := hide B1
  have HR := hide R1
  clear B1 R1
  have h0 : nums k = 0 := (nums_0 k).2 (by omega)
  have hp : partsV k = .agg #[.int .i64 0, .bool false, .bool false] := by
    unfold partsV
    rw [h0, decide_eq_false (show ¬ k = 4 by omega), decide_eq_false (show ¬ (k = 1 ∨ k = 5) by omega)]
  rw [hp]
  clear hp h0
  have hor : (decide (k < 0) || decide (6 ≤ k)) = true := by rcases h with h | h <;> simp [h]
  by_cases hneg : k < 0
  all_goals
    try have h6 : 6 ≤ k := by omega
    clear h hor
    go_enter Try.func28, Try.ntmps28
    go_wp2_with fail
    refine hk.mono ?_
    rintro e w1 ⟨rfl, b1⟩
    have KB := below_new w1 (.cells kindsV 67)
    have R2 := (HR.out.below b1).below KB
    have HB2 := hide ((HB.out.trans (b1.mono HB.out.size)).trans (KB.mono (HB.out.trans (b1.mono HB.out.size)).size))
    obtain ⟨g0, g1, g2, f0, f1, f2⟩ := three_of R2
    have HR2 := hide R2
    clear hk b1 KB R2
    go_wp2_with (refine wpList_store_row rfl 67 (.tmp 3) (.tmp 4) rfl w1.heap.size kindsV rfl rfl 67 _ (heap_alloc_last w1 _) kindsV_info rfl kindsV_one ?_; rw [World.setRow_alloc_new])
    refine bodyPost_ret (v := .agg #[.int .i64 0, .bool false, .bool false]) (results_cell_row rfl _ _ w.heap.size _ #[.int .i64 0, .bool false, .bool false] (0, 0) _ rfl (Box.set3 _ _ _ HR2.out).what Try.underlying45 rfl (by kernel_rfl)) rfl ?_
    exact ⟨rfl, ((HB2.out.setCell (p := ⟨w.heap.size, 0, none⟩) (Nat.le_refl _) _).setCell (p := ⟨w.heap.size, 1, none⟩) (Nat.le_refl _) _).setCell (p := ⟨w.heap.size, 2, none⟩) (Nat.le_refl _) _⟩
theorem pparts_any (k : Int) (w : World) : Calls Try.prog 28 #[.int .i64 k] w fun e w' => e = .returned (partsV k) ∧ Below w.heap.size w w' := by
  by_cases h : 0 ≤ k ∧ k < 6
  · obtain ⟨j, rfl⟩ := Int.eq_ofNat_of_zero_le h.1
    exact pparts_in j (by omega) w
  · exact pparts_out k (by omega) w
theorem six_of {W : World} {g : Nat} {u0 u1 u2 u3 u4 u5 : Value} {t : TypeId} (h : Box W g (.cells #[u0, u1, u2, u3, u4, u5] t (0, 0))) :
    W.cell? ⟨g, 0, none⟩ = some u0 ∧ W.cell? ⟨g, 1, none⟩ = some u1 ∧ W.cell? ⟨g, 2, none⟩ = some u2 ∧ W.cell? ⟨g, 3, none⟩ = some u3 ∧ W.cell? ⟨g, 4, none⟩ = some u4 ∧ W.cell? ⟨g, 5, none⟩ = some u5 :=
  ⟨cell_of_heap h.what 0, cell_of_heap h.what 1, cell_of_heap h.what 2, cell_of_heap h.what 3, cell_of_heap h.what 4, cell_of_heap h.what 5⟩
theorem six_frozen {W : World} {g : Nat} {cs : Array Value} {t : TypeId} (h : Box W g (.cells cs t (0, 0))) :
    W.frozen? ⟨g, 0, none⟩ = false ∧ W.frozen? ⟨g, 1, none⟩ = false ∧ W.frozen? ⟨g, 2, none⟩ = false ∧ W.frozen? ⟨g, 3, none⟩ = false ∧ W.frozen? ⟨g, 4, none⟩ = false ∧ W.frozen? ⟨g, 5, none⟩ = false :=
  ⟨frozen_of_heap h.what 0, frozen_of_heap h.what 1, frozen_of_heap h.what 2, frozen_of_heap h.what 3, frozen_of_heap h.what 4, frozen_of_heap h.what 5⟩
def okN (N : Int) (j : Int) (x : Int) : Bool := if decide (j < N) = true then decide (0 ≤ x ∧ x ≤ 4294967295) else decide (x = 0)
def okT (t : Bool) (lo hi x : Int) : Bool := if t = true then decide (lo ≤ x ∧ x ≤ hi) else decide (x = 0)
theorem okN_iff (c : Prop) [Decidable c] {N j x : Int} (h : j < N ↔ c) : okN N j x = true ↔ (c ∧ U4 x ∨ ¬ c ∧ x = 0) := by
  unfold okN
  by_cases hc : c
  · rw [decide_eq_true (h.2 hc), if_pos rfl, decide_eq_true_eq]
    exact ⟨fun h => .inl ⟨hc, h⟩, fun h => h.elim (fun h => h.2) (fun h => absurd hc h.1)⟩
  · rw [decide_eq_false (fun h' => hc (h.1 h')), if_neg (by decide), decide_eq_true_eq]
    exact ⟨fun h => .inr ⟨hc, h⟩, fun h => h.elim (fun h => absurd h.1 hc) (fun h => h.2)⟩
theorem okT_iff (c : Prop) [Decidable c] (lo hi x : Int) : okT (decide c) lo hi x = true ↔ (c ∧ (lo ≤ x ∧ x ≤ hi) ∨ ¬ c ∧ x = 0) := by
  unfold okT
  by_cases hc : c
  · rw [decide_eq_true hc, if_pos rfl, decide_eq_true_eq]
    exact ⟨fun h => .inl ⟨hc, h⟩, fun h => h.elim (fun h => h.2) (fun h => absurd hc h.1)⟩
  · rw [decide_eq_false hc, if_neg (by decide), decide_eq_true_eq]
    exact ⟨fun h => .inr ⟨hc, h⟩, fun h => h.elim (fun h => absurd h.1 hc) (fun h => h.2)⟩
theorem may_parts (k s b i r : Int) (zs : List Int) : May ⟨k, s, b, i, r, zs⟩ ↔ ¬ nums k = 0 ∧ okN (nums k) 0 s = true ∧ okN (nums k) 1 b = true ∧ okN (nums k) 2 i = true ∧ okT (decide (k = 4)) 1 15 r = true ∧ okT (decide (k = 1 ∨ k = 5)) 1 65535 zs.length = true := by
  rw [nums_0, okN_iff (1 ≤ k ∧ k ≤ 5) (by have := nums_0 k; have := nums_le k; omega), okN_iff (k = 1 ∨ k = 2) (nums_1 k), okN_iff (k = 1) (nums_2 k), okT_iff, okT_iff]
  unfold May
  dsimp only
  constructor
  · rintro ⟨h1, h2, h3, h4, h5, h6⟩
    exact ⟨fun h => h h1, .inl ⟨h1, h2⟩, h3, h4, h5, by omega⟩
  · rintro ⟨h1, h2, h3, h4, h5, h6⟩
    have h1' : 1 ≤ k ∧ k ≤ 5 := Classical.not_not.1 h1
    exact ⟨h1', h2.elim (fun h => h.2) (fun h => absurd h1' h.1), h3, h4, h5, by omega⟩
theorem run_index3_0 (s b i : Int) (W : World) : (Instr.index 47 (.agg #[.int .i64 s, .int .i64 b, .int .i64 i]) (.int .i64 0)).run Try.prog W = .ok (.int .i64 s) W := by
  simp [Instr.index, run_underlying Try.underlying47, go_sem]
theorem run_index3_1 (s b i : Int) (W : World) : (Instr.index 47 (.agg #[.int .i64 s, .int .i64 b, .int .i64 i]) (.int .i64 1)).run Try.prog W = .ok (.int .i64 b) W := by
  simp [Instr.index, run_underlying Try.underlying47, go_sem]
theorem run_index3_2 (s b i : Int) (W : World) : (Instr.index 47 (.agg #[.int .i64 s, .int .i64 b, .int .i64 i]) (.int .i64 2)).run Try.prog W = .ok (.int .i64 i) W := by
  simp [Instr.index, run_underlying Try.underlying47, go_sem]
theorem pmaybe_n (N j x : Int) (w : World) : Calls Try.prog 37 #[.int .i64 x, .bool (decide (j < N)), .int .i64 0, .int .i64 4294967295] w fun e w' => e = .returned (.bool (okN N j x)) ∧ w' = w := pmaybe_any x _ 0 4294967295 w
theorem pmaybe_t (t : Bool) (lo hi x : Int) (w : World) : Calls Try.prog 37 #[.int .i64 x, .bool t, .int .i64 lo, .int .i64 hi] w fun e w' => e = .returned (.bool (okT t lo hi x)) ∧ w' = w := pmaybe_any x t lo hi w
set_option maxRecDepth 100000 in
set_option maxHeartbeats 4000000 in
theorem pcheck_any (k s b i r : Int) (a : Option Addr) (n c : Nat) (zs : List Int) (hn : zs.length = n) (w : World) :
    Calls Try.prog 14 #[.agg #[.int .i64 k, .int .i64 s, .int .i64 b, .int .i64 i, .int .i64 r, .slice a n c]] w fun e w' => e = .returned (.int .i64 (checkP ⟨k, s, b, i, r, zs⟩)) ∧ Below w.heap.size w w' := by
  have hm := may_parts k s b i r zs
  rw [hn] at hm
  obtain ⟨C, hC⟩ : ∃ C, checkP ⟨k, s, b, i, r, zs⟩ = C := ⟨_, rfl⟩
  have hno : ∀ q : Prop, (May ⟨k, s, b, i, r, zs⟩ → q) → ¬ q → C = 2 := fun q h hq => by rw [← hC]; exact checkP_no (fun hM => hq (h hM))
  have hok : May ⟨k, s, b, i, r, zs⟩ → C = 0 := fun h => by rw [← hC]; exact checkP_yes h
  rw [hC]
  clear hC hn
  have HZ : Hid (nums k = 0 → C = 2) := fun h => hno _ (fun hM => (hm.1 hM).1) (fun h' => h' h)
  have H0 : Hid (okN (nums k) 0 s = false → C = 2) := fun h => hno _ (fun hM => (hm.1 hM).2.1) (by rw [h]; decide)
  have H1 : Hid (okN (nums k) 1 b = false → C = 2) := fun h => hno _ (fun hM => (hm.1 hM).2.2.1) (by rw [h]; decide)
  have H2 : Hid (okN (nums k) 2 i = false → C = 2) := fun h => hno _ (fun hM => (hm.1 hM).2.2.2.1) (by rw [h]; decide)
  have H3 : Hid (okT (decide (k = 4)) 1 15 r = false → C = 2) := fun h => hno _ (fun hM => (hm.1 hM).2.2.2.2.1) (by rw [h]; decide)
  have H4 : Hid (okT (decide (k = 1 ∨ k = 5)) 1 65535 n = false → C = 2) := fun h => hno _ (fun hM => (hm.1 hM).2.2.2.2.2) (by rw [h]; decide)
  have HC : Hid (¬ nums k = 0 ∧ okN (nums k) 0 s = true ∧ okN (nums k) 1 b = true ∧ okN (nums k) 2 i = true ∧ okT (decide (k = 4)) 1 15 r = true ∧ okT (decide (k = 1 ∨ k = 5)) 1 65535 n = true → C = 0) := fun h => hok (hm.2 h)
  clear hm hno hok
  have B1 := below_new w (.cells #[.int .i64 k, .int .i64 s, .int .i64 b, .int .i64 i, .int .i64 r, .slice a n c] 24)
  have R1 := Box.new w (.cells #[.int .i64 k, .int .i64 s, .int .i64 b, .int .i64 i, .int .i64 r, .slice a n c] 24)
  have hp := pparts_any k (w.alloc (.cells #[.int .i64 k, .int .i64 s, .int .i64 b, .int .i64 i, .int .i64 r, .slice a n c] 24))
  unfold partsV at hp
  obtain ⟨N, hN⟩ : ∃ N, nums k = N := ⟨_, rfl⟩
  obtain ⟨R, hR⟩ : ∃ R, decide (k = 4) = R := ⟨_, rfl⟩
  obtain ⟨D, hD⟩ : ∃ D, decide (k = 1 ∨ k = 5) = D := ⟨_, rfl⟩
  rw [hN, hR, hD] at hp
  rw [hN] at HZ H0 H1 H2 HC
  rw [hR] at H3 HC
  rw [hD] at H4 HC
  clear hN hR hD
  have HB := hide B1
  have HR1 := hide R1
  clear B1 R1
  go_enter Try.func14, Try.ntmps14
  go_wp2_with fail
  refine hp.mono ?_
  rintro e w1 ⟨rfl, b1⟩
  have B2 := HB.out.trans (b1.mono HB.out.size)
  have KB := below_new w1 (.cells #[.int .i64 N, .bool R, .bool D] 45)
  have R2 := (HR1.out.below b1).below KB
  have P2 := Box.new w1 (.cells #[.int .i64 N, .bool R, .bool D] 45)
  have B3 := B2.trans (KB.mono B2.size)
  have hnu := pnumbers_any k s b i r (.slice a n c) (w1.alloc (.cells #[.int .i64 N, .bool R, .bool D] 45)) ⟨_, _, _, rfl⟩
  obtain ⟨c0, c1, c2, c3, c4, c5⟩ := six_of R2
  have HR2 := hide R2
  have HP2 := hide P2
  have HB3 := hide B3
  clear hp b1 KB R2 P2 B2 B3 HB HR1
  by_cases hN0 : N = 0
  · subst hN0
    obtain rfl := HZ.out rfl
    clear hnu c0 c1 c2 c3 c4 c5
    go_wp2
    go_ret
    exact ⟨rfl, HB3.out⟩
  · have hNb : (N == 0) = false := beq_eq_false_iff_ne.2 hN0
    have HN0 := hide hN0
    clear hN0 HZ
    go_wp2_with fail
    refine hnu.mono ?_
    rintro e w2 ⟨rfl, b2⟩
    have R3 := HR2.out.below b2
    have P3 := HP2.out.below b2
    have HB4 := hide (HB3.out.trans (b2.mono HB3.out.size))
    have HR3 := hide R3
    have HP3 := hide P3
    clear hnu b2 c0 c1 c2 c3 c4 c5 R3 P3 HR2 HP2 HB3
    go_wp2
    go_loopw [4, 5, 14] (fun _ _ u wr => ∃ j : Nat, j ≤ 3 ∧ u = .int .i64 j ∧ wr = w2 ∧ Hid (0 < j → okN N 0 s = true) ∧ Hid (1 < j → okN N 1 b = true) ∧ Hid (2 < j → okN N 2 i = true)) (fun _ _ u _ => 3 - (intOf u).toNat)
    case atStart => exact ⟨0, by omega, rfl, rfl, fun h => absurd h (by decide), fun h => absurd h (by decide), fun h => absurd h (by decide)⟩
    case round =>
      obtain ⟨j, hj, rfl, rfl, I0, I1, I2⟩ := hrel
      have hj4 : j = 0 ∨ j = 1 ∨ j = 2 ∨ j = 3 := by omega
      rcases hj4 with rfl | rfl | rfl | rfl
      · have hc := pmaybe_n N 0 s wr
        have hix := run_index3_0 s b i wr
        obtain ⟨p0, _, _, _, _, _⟩ := three_of HP3.out
        go_wp2_with fail
        refine hc.mono ?_
        rintro e w3 ⟨rfl, rfl⟩
        clear hc p0
        obtain ⟨g, hg⟩ : ∃ g, okN N 0 s = g := ⟨_, rfl⟩
        cases g with
        | false =>
          obtain rfl := H0.out hg
          rw [hg]
          clear hg
          go_wp2
          go_ret
          exact ⟨rfl, HB4.out⟩
        | true =>
          have HG := hide hg
          rw [hg]
          clear hg
          go_wp2
          exact ⟨⟨1, by omega, by go_num, trivial, fun _ => HG.out, fun h => absurd h (by decide), fun h => absurd h (by decide)⟩, by simp [intOf]⟩
      · have hc := pmaybe_n N 1 b wr
        have hix := run_index3_1 s b i wr
        obtain ⟨p0, _, _, _, _, _⟩ := three_of HP3.out
        go_wp2_with fail
        refine hc.mono ?_
        rintro e w3 ⟨rfl, rfl⟩
        clear hc p0
        obtain ⟨g, hg⟩ : ∃ g, okN N 1 b = g := ⟨_, rfl⟩
        cases g with
        | false =>
          obtain rfl := H1.out hg
          rw [hg]
          clear hg
          go_wp2
          go_ret
          exact ⟨rfl, HB4.out⟩
        | true =>
          have HG := hide hg
          rw [hg]
          clear hg
          go_wp2
          exact ⟨⟨2, by omega, by go_num, trivial, fun _ => I0.out (by decide), fun _ => HG.out, fun h => absurd h (by decide)⟩, by simp [intOf]⟩
      · have hc := pmaybe_n N 2 i wr
        have hix := run_index3_2 s b i wr
        obtain ⟨p0, _, _, _, _, _⟩ := three_of HP3.out
        go_wp2_with fail
        refine hc.mono ?_
        rintro e w3 ⟨rfl, rfl⟩
        clear hc p0
        obtain ⟨g, hg⟩ : ∃ g, okN N 2 i = g := ⟨_, rfl⟩
        cases g with
        | false =>
          obtain rfl := H2.out hg
          rw [hg]
          clear hg
          go_wp2
          go_ret
          exact ⟨rfl, HB4.out⟩
        | true =>
          have HG := hide hg
          rw [hg]
          clear hg
          go_wp2
          exact ⟨⟨3, by omega, by go_num, trivial, fun _ => I0.out (by decide), fun _ => I1.out (by decide), fun _ => HG.out⟩, by simp [intOf]⟩
      · have hc := pmaybe_t R 1 15 r wr
        obtain ⟨_, p1, p2, _, _, _⟩ := three_of HP3.out
        obtain ⟨_, _, _, _, c4, c5⟩ := six_of HR3.out
        go_wp2_with fail
        refine hc.mono ?_
        rintro e w3 ⟨rfl, rfl⟩
        clear hc
        obtain ⟨g, hg⟩ : ∃ g, okT R 1 15 r = g := ⟨_, rfl⟩
        cases g with
        | false =>
          obtain rfl := H3.out hg
          rw [hg]
          clear hg
          go_wp2
          go_ret
          exact ⟨rfl, HB4.out⟩
        | true =>
          have HG := hide hg
          rw [hg]
          clear hg
          have hd := pmaybe_t D 1 65535 n w3
          go_wp2_with fail
          refine hd.mono ?_
          rintro e w4 ⟨rfl, rfl⟩
          clear hd
          obtain ⟨g, hg⟩ : ∃ g, okT D 1 65535 n = g := ⟨_, rfl⟩
          cases g with
          | false =>
            obtain rfl := H4.out hg
            rw [hg]
            clear hg
            go_wp2
            go_ret
            exact ⟨rfl, HB4.out⟩
          | true =>
            obtain rfl := HC.out ⟨HN0.out, I0.out (by decide), I1.out (by decide), I2.out (by decide), HG.out, hg⟩
            rw [hg]
            clear hg
            go_wp2
            go_ret
            exact ⟨rfl, HB4.out⟩
def sizeP (p : PV) : Int := if May p then (bodyLen p : Int) + 4 else 0
def sendsP (p : PV) : Bool := decide (May p) && (decide (p.k = 1) || decide (p.k = 5) || (decide (p.k = 4) && decide (p.r ≤ 7)))
theorem may_len {k s b i r : Int} {zs : List Int} (h : May ⟨k, s, b, i, r, zs⟩) : zs.length ≤ 65535 := by
  rcases h.2.2.2.2.2 with h | h
  · exact h.2.2
  · have := h.2; dsimp only at this; omega
set_option maxRecDepth 100000 in
set_option maxHeartbeats 4000000 in
theorem psize_no (k s b i r : Int) (a : Option Addr) (n c : Nat) (zs : List Int) (hn : zs.length = n) (hM : ¬ May ⟨k, s, b, i, r, zs⟩) (w : World) :
    Calls Try.prog 16 #[.agg #[.int .i64 k, .int .i64 s, .int .i64 b, .int .i64 i, .int .i64 r, .slice a n c]] w fun e w' => e = .returned (.int .i64 0) ∧ Below w.heap.size w w' := by
  have hc := pcheck_any k s b i r a n c zs hn (w.alloc (.cells #[.int .i64 k, .int .i64 s, .int .i64 b, .int .i64 i, .int .i64 r, .slice a n c] 24))
  have HB := hide (below_new w (.cells #[.int .i64 k, .int .i64 s, .int .i64 b, .int .i64 i, .int .i64 r, .slice a n c] 24))
  rw [checkP_no hM] at hc
  clear hM hn
  go_enter Try.func16, Try.ntmps16
  go_wp2_with fail
  refine hc.mono ?_
  rintro e w1 ⟨rfl, b1⟩
  have HB1 := hide (HB.out.trans (b1.mono HB.out.size))
  clear hc b1
  go_wp2
  go_ret
  exact ⟨rfl, HB1.out⟩
set_option maxRecDepth 100000 in
set_option maxHeartbeats 4000000 in
theorem psize_yes (k s b i r : Int) (a : Option Addr) (n c : Nat) (zs : List Int) (hn : zs.length = n) (hM : May ⟨k, s, b, i, r, zs⟩) (w : World) :
    Calls Try.prog 16 #[.agg #[.int .i64 k, .int .i64 s, .int .i64 b, .int .i64 i, .int .i64 r, .slice a n c]] w fun e w' => e = .returned (.int .i64 ((bodyLen ⟨k, s, b, i, r, zs⟩ : Int) + 4)) ∧ Below w.heap.size w w' := by
  have hc := pcheck_any k s b i r a n c zs hn (w.alloc (.cells #[.int .i64 k, .int .i64 s, .int .i64 b, .int .i64 i, .int .i64 r, .slice a n c] 24))
  have HB := hide (below_new w (.cells #[.int .i64 k, .int .i64 s, .int .i64 b, .int .i64 i, .int .i64 r, .slice a n c] 24))
  have HR := hide (Box.new w (.cells #[.int .i64 k, .int .i64 s, .int .i64 b, .int .i64 i, .int .i64 r, .slice a n c] 24))
  have hL := bodyLen_nums ⟨k, s, b, i, r, zs⟩ (may_kind hM)
  have hnl := may_len hM
  dsimp only at hL
  rw [hn] at hL hnl
  rw [hL]
  rw [checkP_yes hM] at hc
  have hN3 := nums_le k
  clear hM hn hL
  have hp := fun W => pparts_any k W
  unfold partsV at hp
  obtain ⟨D, hD⟩ : ∃ D, decide (k = 1 ∨ k = 5) = D := ⟨_, rfl⟩
  rw [hD] at hp
  clear hD
  obtain ⟨N, hN⟩ : ∃ N, nums k = N := ⟨_, rfl⟩
  rw [hN] at hp hN3 ⊢
  clear hN
  by_cases h4 : k = 4
  all_goals
    first | (rw [decide_eq_true h4] at hp; rw [if_pos h4]) | (rw [decide_eq_false h4] at hp; rw [if_neg h4])
    clear h4
    go_enter Try.func16, Try.ntmps16
    go_wp2_with fail
    refine hc.mono ?_
    rintro e w1 ⟨rfl, b1⟩
    have HB1 := hide (HB.out.trans (b1.mono HB.out.size))
    have R1 := HR.out.below b1
    have HR1 := hide R1
    obtain ⟨c0, _, _, _, _, _⟩ := six_of R1
    have hp1 := hp w1
    clear hc b1 R1 HB HR hp
    go_wp2_with fail
    refine hp1.mono ?_
    rintro e w2 ⟨rfl, b2⟩
    have HB2 := hide (HB1.out.trans (b2.mono HB1.out.size))
    have KB := below_new w2 (.cells #[.int .i64 N, .bool true, .bool D] 45)
    have KB' := below_new w2 (.cells #[.int .i64 N, .bool false, .bool D] 45)
    obtain ⟨_, _, _, _, _, c5⟩ := six_of ((HR1.out.below b2).below KB)
    obtain ⟨_, _, _, _, _, c5'⟩ := six_of ((HR1.out.below b2).below KB')
    have HB3 := hide (HB2.out.trans (KB.mono HB2.out.size))
    have HB3' := hide (HB2.out.trans (KB'.mono HB2.out.size))
    clear hp1 b2 HB1 HR1 KB KB' c0 HB2
    go_wp2
    go_ret
    first | exact ⟨congrArg (fun z => Ending.returned (.int .i64 z)) (by omega), HB3.out⟩ | exact ⟨congrArg (fun z => Ending.returned (.int .i64 z)) (by omega), HB3'.out⟩
theorem psize_any (k s b i r : Int) (a : Option Addr) (n c : Nat) (zs : List Int) (hn : zs.length = n) (w : World) :
    Calls Try.prog 16 #[.agg #[.int .i64 k, .int .i64 s, .int .i64 b, .int .i64 i, .int .i64 r, .slice a n c]] w fun e w' => e = .returned (.int .i64 (sizeP ⟨k, s, b, i, r, zs⟩)) ∧ Below w.heap.size w w' := by
  unfold sizeP
  by_cases h : May ⟨k, s, b, i, r, zs⟩
  · rw [if_pos h]
    exact psize_yes k s b i r a n c zs hn h w
  · rw [if_neg h]
    exact psize_no k s b i r a n c zs hn h w
set_option maxRecDepth 100000 in
set_option maxHeartbeats 4000000 in
theorem psends_no (k s b i r : Int) (a : Option Addr) (n c : Nat) (zs : List Int) (hn : zs.length = n) (hM : ¬ May ⟨k, s, b, i, r, zs⟩) (w : World) :
    Calls Try.prog 18 #[.agg #[.int .i64 k, .int .i64 s, .int .i64 b, .int .i64 i, .int .i64 r, .slice a n c]] w fun e w' => e = .returned (.bool (sendsP ⟨k, s, b, i, r, zs⟩)) ∧ Below w.heap.size w w' := by
  have hc := pcheck_any k s b i r a n c zs hn (w.alloc (.cells #[.int .i64 k, .int .i64 s, .int .i64 b, .int .i64 i, .int .i64 r, .slice a n c] 24))
  have HB := hide (below_new w (.cells #[.int .i64 k, .int .i64 s, .int .i64 b, .int .i64 i, .int .i64 r, .slice a n c] 24))
  rw [checkP_no hM] at hc
  rw [show sendsP ⟨k, s, b, i, r, zs⟩ = false by unfold sendsP; rw [decide_eq_false hM]; rfl]
  clear hM hn
  go_enter Try.func18, Try.ntmps18
  go_wp2_with fail
  refine hc.mono ?_
  rintro e w1 ⟨rfl, b1⟩
  have HB1 := hide (HB.out.trans (b1.mono HB.out.size))
  clear hc b1
  go_wp2
  go_ret
  exact ⟨rfl, HB1.out⟩
set_option maxRecDepth 100000 in
set_option maxHeartbeats 4000000 in
theorem psends_yes (k s b i r : Int) (a : Option Addr) (n c : Nat) (zs : List Int) (hn : zs.length = n) (hM : May ⟨k, s, b, i, r, zs⟩) (w : World) :
    Calls Try.prog 18 #[.agg #[.int .i64 k, .int .i64 s, .int .i64 b, .int .i64 i, .int .i64 r, .slice a n c]] w fun e w' => e = .returned (.bool (sendsP ⟨k, s, b, i, r, zs⟩)) ∧ Below w.heap.size w w' := by
  have hc := pcheck_any k s b i r a n c zs hn (w.alloc (.cells #[.int .i64 k, .int .i64 s, .int .i64 b, .int .i64 i, .int .i64 r, .slice a n c] 24))
  have HB := hide (below_new w (.cells #[.int .i64 k, .int .i64 s, .int .i64 b, .int .i64 i, .int .i64 r, .slice a n c] 24))
  have HR := hide (Box.new w (.cells #[.int .i64 k, .int .i64 s, .int .i64 b, .int .i64 i, .int .i64 r, .slice a n c] 24))
  have hkk := may_kind hM
  dsimp only at hkk
  rw [checkP_yes hM] at hc
  have hs : sendsP ⟨k, s, b, i, r, zs⟩ = (decide (k = 1) || decide (k = 5) || (decide (k = 4) && decide (r ≤ 7))) := by unfold sendsP; rw [decide_eq_true hM]; rfl
  rw [hs]
  clear hM hn hs
  have hk5 : k = 1 ∨ k = 2 ∨ k = 3 ∨ k = 4 ∨ k = 5 := by omega
  clear hkk
  by_cases hr : r ≤ 7
  all_goals
    rcases hk5 with rfl | rfl | rfl | rfl | rfl
    all_goals
      go_enter Try.func18, Try.ntmps18
      go_wp2_with fail
      refine hc.mono ?_
      rintro e w1 ⟨rfl, b1⟩
      have HB1 := hide (HB.out.trans (b1.mono HB.out.size))
      obtain ⟨c0, _, _, _, c4, _⟩ := six_of (HR.out.below b1)
      clear hc b1
      go_wp2
      go_ret
      exact ⟨congrArg (fun z => Ending.returned (.bool z)) (by simp [hr]), HB1.out⟩
theorem psends_any (k s b i r : Int) (a : Option Addr) (n c : Nat) (zs : List Int) (hn : zs.length = n) (w : World) :
    Calls Try.prog 18 #[.agg #[.int .i64 k, .int .i64 s, .int .i64 b, .int .i64 i, .int .i64 r, .slice a n c]] w fun e w' => e = .returned (.bool (sendsP ⟨k, s, b, i, r, zs⟩)) ∧ Below w.heap.size w w' := by
  by_cases h : May ⟨k, s, b, i, r, zs⟩
  · exact psends_yes k s b i r a n c zs hn h w
  · exact psends_no k s b i r a n c zs hn h w
set_option maxRecDepth 100000 in
set_option maxHeartbeats 1000000 in
theorem oisw_any (k : Int) (w : World) : Calls Try.prog 48 #[.int .i64 k] w fun e w' => e = .returned (.bool (decide (IsW k))) ∧ w' = w := by
  by_cases h1 : k = 1
  · subst h1
    go_enter Try.func48, Try.ntmps48
    go_wp2
    go_ret
    exact ⟨rfl, rfl⟩
  · by_cases h2 : k = 2
    · subst h2
      go_enter Try.func48, Try.ntmps48
      go_wp2
      go_ret
      exact ⟨rfl, rfl⟩
    · by_cases h4 : k = 4
      · subst h4
        go_enter Try.func48, Try.ntmps48
        go_wp2
        go_ret
        exact ⟨rfl, rfl⟩
      · by_cases h8 : k = 8
        · subst h8
          go_enter Try.func48, Try.ntmps48
          go_wp2
          go_ret
          exact ⟨rfl, rfl⟩
        · have hd : decide (IsW k) = false := decide_eq_false (by unfold IsW; omega)
          rw [hd]
          clear hd
          go_enter Try.func48, Try.ntmps48
          go_wp2
          go_ret
          exact ⟨rfl, rfl⟩
def eig (f : Nat → Nat) : Array Value := ((List.range 8).map fun k => Value.int .u8 (f k : Nat)).toArray
theorem eig_size (f : Nat → Nat) : (eig f).size = 8 := by simp [eig]
theorem eig_get {f : Nat → Nat} {k : Nat} (h : k < 8) : (eig f)[k]? = some (.int .u8 (f k : Nat)) := by
  unfold eig
  rw [List.getElem?_toArray, List.getElem?_map, List.getElem?_range h]
  rfl
theorem eig_ext {f g : Nat → Nat} (h : ∀ k, k < 8 → f k = g k) : eig f = eig g := by
  unfold eig
  congr 1
  exact List.map_congr_left fun k hk => by rw [h k (List.mem_range.1 hk)]
theorem eig_set (f : Nat → Nat) {k : Nat} (hk : k < 8) (x : Nat) : (eig f).setIfInBounds k (.int .u8 (x : Nat)) = eig (setf f k x) := by
  refine Array.ext_getElem? fun j => ?_
  rw [Array.getElem?_setIfInBounds]
  by_cases hj : j < 8
  · rw [eig_get (f := setf f k x) hj]
    by_cases e : k = j
    · subst e
      rw [if_pos rfl, if_pos (by rw [eig_size]; exact hj), show setf f k x k = x from if_pos rfl]
    · rw [if_neg e, eig_get (f := f) hj, show setf f k x j = f j from if_neg (fun e' => e e'.symm)]
  · have h1 : (eig f)[j]? = none := Array.getElem?_eq_none (by rw [eig_size]; omega)
    have h2 : (eig (setf f k x))[j]? = none := Array.getElem?_eq_none (by rw [eig_size]; omega)
    rw [h1, h2, if_neg (by omega)]
theorem eig_one (f : Nat → Nat) : (eig f).all (·.oneCell') = true := by
  refine Array.all_eq_true_iff_forall_mem.2 fun v hv => ?_
  simp only [eig, List.mem_toArray, List.mem_map] at hv
  obtain ⟨k, _, rfl⟩ := hv
  rfl
theorem eig_info (f : Nat → Nat) : (Try.prog.info? 76).map (·.size) = some (eig f).size := by rw [eig_size]; kernel_rfl
def Eig (W : World) (g : Nat) (f : Nat → Nat) : Prop := Box W g (.cells (eig f) 76)
theorem Eig.cell {W : World} {g k : Nat} {f : Nat → Nat} (h : Eig W g f) (hk : k < 8) : W.cell? ⟨g, k, none⟩ = some (.int .u8 (f k : Nat)) := (cell_of_row W g k _ _ _ h.what).trans (eig_get hk)
theorem Eig.thaw {W : World} {g k : Nat} {f : Nat → Nat} (h : Eig W g f) : W.frozen? ⟨g, k, none⟩ = false := frozen_of_row W g k _ _ h.what
theorem Eig.set {W : World} {g k : Nat} {f : Nat → Nat} (h : Eig W g f) (hk : k < 8) (x : Nat) : Eig (W.setCell ⟨g, k, none⟩ (.int .u8 (x : Nat))) g (setf f k x) :=
  ⟨by simpa [World.setCell] using h.lt, by rw [← eig_set f hk]; exact heap_setCell_same W g k _ _ _ h.what⟩
def hik (x k : Nat) : Nat := x / 2 ^ ((7 - k) * 8) % 256
theorem hik_int (x k : Nat) : (x : Int) / 2 ^ ((7 - k) * 8) % 256 = (hik x k : Nat) := by unfold hik; simp
def hfill (x k : Nat) : Nat → Nat := fun j => if j < k then hik x j else 0
theorem hfill_set (x k : Nat) : setf (hfill x k) k (hik x k) = hfill x (k + 1) := by
  funext j
  unfold setf hfill
  by_cases e : j = k
  · subst e
    rw [if_pos rfl, if_pos (by omega)]
  · rw [if_neg e]
    by_cases h : j < k
    · rw [if_pos h, if_pos (by omega)]
    · rw [if_neg h, if_neg (by omega)]
theorem hfill_all (x : Nat) : eig (hfill x 8) = eig (hik x) := eig_ext fun k hk => by unfold hfill; rw [if_pos hk]
theorem results_eig {fn : Func} {p : Tmp} (h : fn.results = #[.cell p 76]) {tmps : Array Value} {w : World} {g : Nat} {f : Nat → Nat} (hp : tmps.getD p undef = .pointer (some ⟨g, 0, none⟩)) (T : Eig w g f) :
    (results fn tmps).run Try.prog w = .ok (.agg (eig f)) w := results_cell_row h tmps w g _ _ _ _ hp T.what Try.underlying76 rfl (eig_info f)
def z8 : Obj := .cells #[.int .u8 0, .int .u8 0, .int .u8 0, .int .u8 0, .int .u8 0, .int .u8 0, .int .u8 0, .int .u8 0] 76
set_option maxRecDepth 100000 in
set_option maxHeartbeats 2000000 in
theorem ohigh_any (x : Nat) (hx : x < 9223372036854775808) (w : World) : Calls Try.prog 50 #[.int .i64 x] w fun e w' => e = .returned (.agg (eig (hik x))) ∧ Below w.heap.size w w' := by
  have b1 := below_new w z8
  have b2 := below_new (w.alloc z8) z8
  have HB := hide (b1.trans (b2.mono b1.size))
  have HT : Hid (Eig ((w.alloc z8).alloc z8) (w.heap.size + 1) (hfill x 0)) := by
    have e : eig (hfill x 0) = #[.int .u8 0, .int .u8 0, .int .u8 0, .int .u8 0, .int .u8 0, .int .u8 0, .int .u8 0, .int .u8 0] := by
      have : eig (hfill x 0) = eig (fun _ => 0) := eig_ext fun k _ => by unfold hfill; rw [if_neg (by omega)]
      rw [this]; rfl
    show Box _ _ (.cells (eig (hfill x 0)) 76)
    rw [e]
    exact Box.put z8 (by simp)
  have HR := hide ((Box.new w z8).below b2)
  have HX := hide hx
  clear b1 b2 hx
  unfold z8 at HB HT HR
  go_enter Try.func50, Try.ntmps50
  go_wp2
  obtain ⟨g, hg⟩ : ∃ g, w.heap.size = g := ⟨_, rfl⟩
  rw [hg] at HB HT HR ⊢
  have HG := hide hg
  clear hg
  go_loopw [5] (fun i wr => ∃ k : Nat, k ≤ 8 ∧ i = .int .i64 k ∧ Hid (Eig wr (g + 1) (hfill x k)) ∧ Hid (Box wr g (.cells #[.int .u8 0, .int .u8 0, .int .u8 0, .int .u8 0, .int .u8 0, .int .u8 0, .int .u8 0, .int .u8 0] 76)) ∧ Hid (Below g w wr)) (fun i _ => 8 - (intOf i).toNat)
  case atStart => exact ⟨0, Nat.zero_le _, rfl, HT, HR, HB⟩
  case round =>
    obtain ⟨k, hk, rfl, HT, HR, HB⟩ := hrel
    by_cases hkl : k < 8
    · have hki : (k : Int) < 8 := by omega
      have c1 := HT.out.cell hkl
      have f1 := HT.out.thaw (k := k)
      have HT1 := hide (HT.out.set hkl (hik x k))
      have HR1 := hide (HR.out.cell_other (g := g + 1) (by omega) k (.int .u8 (hik x k : Nat)))
      have HB1 := hide (HB.out.setCell (p := ⟨g + 1, k, none⟩) (Nat.le_succ g) (.int .u8 (hik x k : Nat)))
      have hq : (7 : Int) - (k : Int) = ((7 - k : Nat) : Int) := by omega
      clear HT HR HB
      go_wp2
      rw [hik_int]
      exact ⟨⟨k + 1, by omega, by go_num, (by have := HT1.out; rwa [hfill_set] at this), HR1, HB1⟩, by simp [intOf]; omega⟩
    · obtain rfl : k = 8 := by omega
      have hT : Eig wr (g + 1) (hik x) := by
        have : Box wr (g + 1) (.cells (eig (hfill x 8)) 76) := HT.out
        rwa [hfill_all] at this
      have HT1 := hide hT
      have HT2 : Hid (Eig (wr.setRow g (eig (hik x))) g (hik x)) := HR.out.setRow (eig (hik x))
      have HB2 := hide (below_setRow HB.out (Nat.le_refl g) (eig (hik x)))
      have HR1 := hide HR.out
      clear hT HT HB
      go_wp2_with (first | (refine wpList_load_row rfl 76 (.tmp 3) rfl (g + 1) rfl 76 (eig (hik x)) (0, 0) _ HT1.out.what Try.underlying76 rfl (eig_info _) ?_) | (refine wpList_store_row rfl 76 (.tmp 2) (.tmp 17) rfl g (eig (hik x)) rfl rfl 76 _ HR1.out.what (eig_info _) (by rw [eig_size]; rfl) (eig_one _) ?_))
      refine bodyPost_ret (v := .agg (eig (hik x))) (results_eig rfl rfl HT2.out) rfl ?_
      exact ⟨rfl, by rw [HG.out]; exact HB2.out⟩
theorem eig_cell {x k j : Nat} (hk : k ≤ 8) (hj : j < k) : (eig (hik x))[8 - k + j]? = some (.int .u8 ((be k x)[j]?.getD 0)) := by
  rw [eig_get (by omega)]
  unfold hik be
  rw [List.getElem?_map, List.getElem?_range hj]
  simp only [Option.map_some, Option.getD_some]
  rw [show (7 - (8 - k + j)) * 8 = 8 * (k - 1 - j) by omega, Nat.pow_mul]
theorem or_hi (z x : Nat) (hz : z < 72057594037927936) (hx : x < 256) : bits .or .u64 ((z : Int) * 256) (x : Int) = ((256 * z + x : Nat) : Int) := by
  have e : (z : Int) * 256 = ((256 * z : Nat) : Int) := by omega
  rw [e, bits_or_u64_nat (256 * z) x (by omega) (by omega)]
  have h3 : 2 ^ 8 * z + x = 2 ^ 8 * z ||| x := Nat.two_pow_add_eq_or_of_lt (by omega) z
  rw [← h3]
theorem nb_take {zs : List Int} {k : Nat} (hk : k < zs.length) : nb (zs.take (k + 1)) = 256 * nb (zs.take k) + (zs[k]?.getD 0).toNat := by
  rw [List.take_add_one, List.getElem?_eq_getElem hk, Option.toList_some, nb_snoc]
  rfl
theorem nb_small {zs : List Int} (h : Octs zs) {k : Nat} (hk : k ≤ 7) : nb (zs.take k) < 72057594037927936 := by
  have h1 := nb_lt _ (h.take k)
  have h2 : 256 ^ (zs.take k).length ≤ 256 ^ 7 := Nat.pow_le_pow_right (by decide) (by rw [List.length_take]; omega)
  have h3 : 256 ^ 7 = 72057594037927936 := by decide
  omega
set_option maxRecDepth 100000 in
set_option maxHeartbeats 2000000 in
theorem ovalue_any {lo : Nat} {a : Option Addr} {n c : Nat} {zs : List Int} {w : World} (X : Byt lo w (.slice a n c) zs) (hl : n ≤ 8) :
    Calls Try.prog 71 #[.slice a n c] w fun e w' => e = .returned (.int .u64 (nb zs : Nat)) ∧ w' = w := by
  have HN := hide X.len.1
  have HX := hide X
  clear X
  go_enter Try.func71, Try.ntmps71
  go_wp2
  go_loopw [3, 8] (fun r i wr => ∃ k : Nat, k ≤ n ∧ r = .int .u64 (nb (zs.take k) : Nat) ∧ i = .int .i64 k ∧ wr = w) (fun _ i _ => n - (intOf i).toNat)
  case atStart => exact ⟨0, Nat.zero_le _, rfl, rfl, rfl⟩
  case round =>
    obtain ⟨k, hk, rfl, rfl, rfl⟩ := hrel
    by_cases hkn : k < n
    · have hki : (k : Int) < (n : Int) := by omega
      obtain ⟨q, o, rfl, _, _⟩ := HX.out.row (by omega)
      have c1 := (HX.out.cell hkn).1
      have ho := HX.out.words.getD k
      have hz := nb_small HX.out.words (k := k) (by omega)
      have HT := hide (nb_take (zs := zs) (k := k) (by have := HN.out; omega))
      generalize nb (zs.take k) = z at *
      generalize zs[k]?.getD 0 = x at *
      obtain ⟨y, rfl⟩ := Int.eq_ofNat_of_zero_le ho.1
      have hy : y < 256 := by omega
      have HO := hide (or_hi z y hz hy)
      clear hy
      go_wp2
      rw [HO.out]
      exact ⟨⟨k + 1, by omega, by rw [HT.out]; rfl, by go_num, trivial⟩, by simp [intOf]; omega⟩
    · obtain rfl : k = n := by omega
      have hr : nb (zs.take k) = nb zs := by rw [HN.out, List.take_length]
      rw [hr]
      clear hr
      go_wp2
      go_ret
      exact ⟨rfl, rfl⟩
def Wri (W : World) (p c most : Nat) : Prop := Box W p (.cells #[.pointer (some ⟨c, 0, none⟩), .int .i64 (most : Nat)] 73)
def fz : Obj := .cells #[.int .i64 0, .int .i64 0] 62
set_option maxRecDepth 100000 in
set_option maxHeartbeats 2000000 in
theorem olay_long {p c most n m d : Nat} {b : Option Addr} {sv : Value} {er fa : Int} {w : World} (P : Wri w p c most) (C : Cur w c sv n er fa) (hm : most < n + m) (hn : n ≤ most) (hmost : most ≤ 100000) :
    Calls Try.prog 51 #[.pointer (some ⟨p, 0, none⟩), .slice b m d] w fun e w' => e = .returned (.agg #[.int .i64 4, .int .i64 (n : Nat)]) ∧ Below w.heap.size w w' := by
  have B1 := below_new w fz
  have R1 := Box.new w fz
  have P1 := P.below B1
  have C1 := Box.below C B1
  have hh := ohere_any (w := (w.alloc fz).drew) (c := c) (sv := sv) (a := n) (x := er) (y := fa) C1.drew 4
  have HB := hide B1
  have HR := hide R1
  obtain ⟨p0, p1, _, _⟩ := P1.two
  obtain ⟨c0, c1, c2, c3, _, _, _, _⟩ := four_cells C1
  have hw : IntKind.i64.wrap ((most : Int) - (n : Int)) = (most : Int) - (n : Int) := by rw [IntKind.wrap_i64]; omega
  have hl : (most : Int) - (n : Int) < (m : Int) := by omega
  clear B1 R1 P1 C1 P C hm hn hmost
  unfold fz at hh HB HR p0 p1 c0 c1 c2 c3
  go_enter Try.func51, Try.ntmps51
  go_wp2_with fail
  go_region
  clear p1 c1 c2 c3
  go_wp2_with fail
  refine hh.mono ?_
  rintro e w2 ⟨rfl, B2⟩
  replace B2 : Below (w.alloc (.cells #[.int .i64 0, .int .i64 0] 62)).heap.size (w.alloc (.cells #[.int .i64 0, .int .i64 0] 62)) w2 := (Below.refl _ _).drew.trans B2
  have R2 := HR.out.below B2
  obtain ⟨r0, r1, f0, f1⟩ := R2.two
  have HB2 := hide (HB.out.trans (B2.mono HB.out.size))
  have HBZ := hide ((HB2.out.setCell (p := ⟨w.heap.size, 0, none⟩) (Nat.le_refl _) (.int .i64 4)).setCell (p := ⟨w.heap.size, 1, none⟩) (Nat.le_refl _) (.int .i64 (n : Nat)))
  have R3 := (R2.set2 (.int .i64 4) (.int .i64 (n : Nat))).two
  clear hh R2 B2 p0 c0
  go_wp2
  obtain ⟨g0, g1, _, _⟩ := R3
  refine bodyPost_ret (v := .agg #[.int .i64 4, .int .i64 (n : Nat)]) (by simp [results, Try.f51, go_sem, g0, g1]) rfl ?_
  exact ⟨rfl, HBZ.out⟩
theorem step_app {ops : Array Oper} {o : Oper} {a : Act} {W : World} {K : Act → World → Prop} {Q : Exit → Act → World → Prop} {E : Prop} (hgd : o.guard = none) (s x : Operand) (t tn : TypeId)
    (ho : o.op = .call { callee := .builtin .append, args := #[s, x], argTypes := #[t, tn] }) (vs vx : Value) (hs : a.eval s = vs) (hx : a.eval x = vx) (v' : Value) (w' : World) (hr : (Builtin.append_ #[t, tn] o.type #[vs, vx]).run Try.prog W = .ok v' w')
    (hK : K (a.put o.dst v') w') : if Region.wanted o (yielded ops a.tmps) = true then Oper.wp Try.prog o a W K Q else E := by
  have hw : Region.wanted o (yielded ops a.tmps) = true := by simp [Region.wanted, hgd]
  rw [if_pos hw]
  exact Lib.wp_append_run W s x t tn ho _ _ hs hx _ _ hr hK
def rowOf (a : Option Addr) : Nat → Prop := fun k => (Value.slice a 0 0).ownBlock = some k
theorem rowOf_eq (a : Option Addr) (n c : Nat) : (Value.slice a n c).ownBlock = (Value.slice a 0 0).ownBlock := by cases a <;> rfl
def Went (W : World) (a a' : Option Addr) : Prop := ∀ k, rowOf a' k → rowOf a k ∨ W.heap.size ≤ k
set_option maxRecDepth 100000 in
set_option maxHeartbeats 4000000 in
theorem olay_some {lo lo' p c most n cap m d : Nat} {a b : Option Addr} {zs ys : List Int} {er fa : Int} {w : World} (P : Wri w p c most) (C : Cur w c (.slice a n cap) n er fa) (O : OwnB lo w (.slice a n cap) zs) (Y : Byt lo' w (.slice b m d) ys) (hm : n + m ≤ most) (hmost : most ≤ 100000) (hlo : lo ≤ w.heap.size) :
    Calls Try.prog 51 #[.pointer (some ⟨p, 0, none⟩), .slice b m d] w fun e w' => ∃ (a' : Option Addr) (cap' : Nat), e = .returned (.agg #[.int .i64 0, .int .i64 0]) ∧ Cur w' c (.slice a' (n + m) cap') (n + m : Nat) er fa ∧ OwnB lo w' (.slice a' (n + m) cap') (zs ++ ys) ∧ Spared (fun k => k = c ∨ rowOf a k) w w' ∧ Went w a a' := by
  have B1 := below_new w fz
  have R1 := Box.new w fz
  have P1 := P.below B1
  have C1 := Box.below C B1
  have O1 : OwnB lo (w.alloc fz).drew.drew (.slice a n cap) zs := O.below (show Below w.heap.size w (w.alloc fz).drew.drew from B1.drew.drew)
  have Y1 : Byt lo' (w.alloc fz).drew.drew (.slice b m d) ys := Y.below (show Below w.heap.size w (w.alloc fz).drew.drew from B1.drew.drew)
  obtain ⟨a', cap', w2, hap, O2, S2', hat⟩ := ownb_on O1 Y1 (by omega) (Nat.le_trans hlo B1.size)
  have S2 : Spared (fun k => (Value.slice a n cap).ownBlock = some k) (w.alloc fz) w2 := ((Spared.refl _ _).drew.drew).next S2' (fun _ _ h => h)
  have hac : ∀ k, rowOf a k → k ≠ c := fun k hk => O.apart C (by decide) (by rw [rowOf_eq]; exact hk)
  have hal : ∀ k, rowOf a k → k < w.heap.size := fun k hk => (O.lt (g := k) (by rw [rowOf_eq]; exact hk)).2
  have hrow : ∀ (n' c' : Nat) k, (Value.slice a n' c').ownBlock = some k → rowOf a k := fun n' c' k hk => by rw [rowOf_eq] at hk; exact hk
  have hcl := C.lt
  have hpc : p ≠ c := Box.apart P C (by decide)
  have hpa : ∀ k, rowOf a k → k ≠ p := fun k hk => O.apart P (by decide) (by rw [rowOf_eq]; exact hk)
  have hpl := P.lt
  have R2 := R1.spared S2 (fun hk => by have := hal _ (hrow _ _ _ hk); omega)
  have C2 : Cur w2 c (.slice a n cap) n er fa := Box.spared C1 S2 (fun hk => hac _ (hrow _ _ _ hk) rfl)
  have P2 := P1.spared S2 (fun hk => hpa _ (hrow _ _ _ hk) rfl)
  have HW : Hid (Went w a a') := fun k hk => by
    rcases hat with h | h
    · left
      rw [rowOf_eq, rowOf_eq a n cap] at h
      unfold rowOf at hk ⊢
      rwa [h] at hk
    · right
      rw [rowOf_eq] at h
      unfold rowOf at hk
      rw [h] at hk
      obtain rfl := Option.some.inj hk
      exact B1.size
  have HK : Hid (∀ k, rowOf a' k → k ≠ c ∧ k ≠ w.heap.size) := fun k hk => by
    rcases hat with h | h
    · rw [rowOf_eq, rowOf_eq a n cap] at h
      have hk' : rowOf a k := by
        unfold rowOf at hk ⊢
        rwa [h] at hk
      exact ⟨hac k hk', by have := hal k hk'; omega⟩
    · rw [rowOf_eq] at h
      unfold rowOf at hk
      rw [h] at hk
      obtain rfl := Option.some.inj hk
      have : (w.alloc fz).drew.drew.heap.size = w.heap.size + 1 := World.size_alloc w fz
      exact ⟨by omega, by omega⟩
  have HS2 := hide (Spared.ahead B1 S2)
  have HO2 := hide O2
  have HC2 := hide C2
  have HR2 := hide R2
  have HAP := hide hap
  obtain ⟨p0, p1, _, _⟩ := P1.two
  obtain ⟨c0, c1, c2, c3, _, _, _, _⟩ := four_cells C1
  obtain ⟨d0, d1, d2, d3, f0, f1, _, _⟩ := four_cells C2
  obtain ⟨q0, q1, _, _⟩ := P2.two
  obtain ⟨r0, r1, g0, g1⟩ := R2.two
  have hw : IntKind.i64.wrap ((most : Int) - (n : Int)) = (most : Int) - (n : Int) := by rw [IntKind.wrap_i64]; omega
  have hl : ¬ ((most : Int) - (n : Int) < (m : Int)) := by omega
  have hw2 : IntKind.i64.wrap ((n : Int) + (m : Int)) = (n : Int) + (m : Int) := by rw [IntKind.wrap_i64]; omega
  clear B1 R1 P1 C1 P C O Y hap hat S2 O2 C2 P2 R2 hm O1 Y1 S2'
  unfold fz at HAP p0 p1 c0 c1 c2 c3
  have hcR : ¬ c = w.heap.size := by omega
  have hRc : ¬ w.heap.size = c := by omega
  go_enter Try.func51, Try.ntmps51
  go_wp2_with fail
  go_region
  go_wp2_with fail
  go_region_law (refine step_app rfl _ _ _ _ rfl _ _ rfl rfl _ _ HAP.out ?_)
  all_goals
    clear p0 p1 c0 c1 c2 c3 hw hl
    go_wp2
    clear d0 d1 d2 d3 f0 f1 q0 q1 r0 r1 g0 g1
    have C5 := Box.aside (Box.aside (Box.put1 (Box.put1 HC2.out 0 (.slice a' (n + m) cap')) 1 (.int .i64 ((n : Int) + (m : Int)))) (g := w.heap.size) 0 (.int .i64 0) hcR) (g := w.heap.size) 1 (.int .i64 0) hcR
    have R5 := (Box.aside (Box.aside HR2.out (g := c) 0 (.slice a' (n + m) cap') hRc) (g := c) 1 (.int .i64 ((n : Int) + (m : Int))) hRc).set2 (.int .i64 0) (.int .i64 0)
    have S5 : Spared (fun k => k = c ∨ k = w.heap.size) w2 ((((w2.setCell ⟨c, 0, none⟩ (.slice a' (n + m) cap')).setCell ⟨c, 1, none⟩ (.int .i64 ((n : Int) + (m : Int)))).setCell ⟨w.heap.size, 0, none⟩ (.int .i64 0)).setCell ⟨w.heap.size, 1, none⟩ (.int .i64 0)) := ((((Spared.refl _ w2).setCell (.inl rfl) 0 _).setCell (.inl rfl) 1 _).setCell (.inr rfl) 0 _).setCell (.inr rfl) 1 _
    obtain ⟨W5, hW5⟩ : ∃ W5, (((w2.setCell ⟨c, 0, none⟩ (.slice a' (n + m) cap')).setCell ⟨c, 1, none⟩ (.int .i64 ((n : Int) + (m : Int)))).setCell ⟨w.heap.size, 0, none⟩ (.int .i64 0)).setCell ⟨w.heap.size, 1, none⟩ (.int .i64 0) = W5 := ⟨_, rfl⟩
    rw [hW5] at C5 R5 S5 ⊢
    clear hW5
    obtain ⟨g0, g1, _, _⟩ := R5.two
    refine bodyPost_ret (v := .agg #[.int .i64 0, .int .i64 0]) (by simp [results, Try.f51, go_sem, g0, g1]) rfl ?_
    exact ⟨a', cap', rfl, C5, HO2.out.spared S5 (fun k hk => fun h => by
      have := HK.out k (by rw [rowOf_eq] at hk; exact hk)
      rcases h with h | h
      · exact this.1 h
      · exact this.2 h), (HS2.out.mono (fun k _ hk => Or.inr (hrow _ _ _ hk))).next S5 (fun i hi h => h.elim Or.inl (fun h => by omega)), HW.out⟩
structure PW (lo : Nat) (W : World) (p c most : Nat) (a : Option Addr) (n cap : Nat) (s : List Int × Int) : Prop where
  wri : Wri W p c most
  cur : ∃ fa, Cur W c (.slice a n cap) n s.2 fa
  own : OwnB lo W (.slice a n cap) s.1
  le : n ≤ most
  most : most ≤ 100000
  lo_ : lo ≤ W.heap.size
theorem PW.len {lo p c most n cap : Nat} {a : Option Addr} {s : List Int × Int} {W : World} (h : PW lo W p c most a n cap s) : s.1.length = n := by
  obtain ⟨_, _, e, _⟩ := ownb_seg h.own
  simp only [Value.slice.injEq] at e
  exact e.2.1.symm
theorem PW.byt {lo p c most n cap : Nat} {a : Option Addr} {s : List Int × Int} {W : World} (h : PW lo W p c most a n cap s) : Byt lo W (.slice a n cap) s.1 := by
  obtain ⟨_, _, e, S⟩ := ownb_seg h.own
  rw [← e] at S
  exact S
theorem PW.spared {lo p c most n cap : Nat} {a : Option Addr} {s : List Int × Int} {A B : World} {F : Nat → Prop} (h : PW lo A p c most a n cap s) (hs : Spared F A B) (h1 : ¬ F p) (h2 : ¬ F c) (h3 : ∀ k, rowOf a k → ¬ F k) : PW lo B p c most a n cap s := by
  obtain ⟨fa, C⟩ := h.cur
  exact ⟨Box.spared h.wri hs h1, ⟨fa, Box.spared C hs h2⟩, h.own.spared hs (fun k hk => h3 k (by rw [rowOf_eq] at hk; exact hk)), h.le, h.most, Nat.le_trans h.lo_ hs.size⟩
theorem PW.below {lo p c most n cap : Nat} {a : Option Addr} {s : List Int × Int} {A B : World} (h : PW lo A p c most a n cap s) (hb : Below A.heap.size A B) : PW lo B p c most a n cap s :=
  h.spared (Spared.of_below (fun _ => False) hb) (fun h => h) (fun h => h) (fun _ _ h => h)
theorem PW.row {lo p c most n cap : Nat} {a : Option Addr} {s : List Int × Int} {A : World} (h : PW lo A p c most a n cap s) {k : Nat} (hk : rowOf a k) : lo ≤ k ∧ k < A.heap.size ∧ k ≠ c ∧ k ≠ p := by
  obtain ⟨fa, C⟩ := h.cur
  have hk' : (Value.slice a n cap).ownBlock = some k := by rw [rowOf_eq]; exact hk
  exact ⟨(h.own.lt hk').1, (h.own.lt hk').2, h.own.apart C (by decide) hk', h.own.apart h.wri (by decide) hk'⟩
theorem PW.ne {lo p c most n cap : Nat} {a : Option Addr} {s : List Int × Int} {A : World} (h : PW lo A p c most a n cap s) : p ≠ c := by
  obtain ⟨fa, C⟩ := h.cur
  exact Box.apart h.wri C (by decide)
def LayPost (lo c : Nat) (a : Option Addr) (W : World) (s : List Int × Int) (e : Ending) (w' : World) : Prop :=
  ∃ (a' : Option Addr) (n' cap' : Nat) (y er' fa' : Int), e = .returned (.agg #[.int .i64 s.2, .int .i64 y]) ∧ Cur w' c (.slice a' n' cap') n' er' fa' ∧ OwnB lo w' (.slice a' n' cap') s.1 ∧ Spared (fun k => k = c ∨ rowOf a k) W w' ∧ Went W a a'
theorem Went.refl (W : World) (a : Option Addr) : Went W a a := fun _ h => .inl h
theorem LayPost.same {lo c : Nat} {a : Option Addr} {n cap : Nat} {W w' : World} {zs : List Int} {x y er fa : Int} {e : Ending} (he : e = .returned (.agg #[.int .i64 x, .int .i64 y])) (C : Cur W c (.slice a n cap) n er fa) (O : OwnB lo W (.slice a n cap) zs) (hb : Below W.heap.size W w') : LayPost lo c a W (zs, x) e w' :=
  ⟨a, n, cap, y, er, fa, he, Box.below C hb, O.below hb, Spared.of_below _ hb, Went.refl _ _⟩
theorem olay_any {lo lo' p c most n cap m d : Nat} {a b : Option Addr} {zs ys : List Int} {er fa : Int} {w : World} (P : Wri w p c most) (C : Cur w c (.slice a n cap) n er fa) (O : OwnB lo w (.slice a n cap) zs) (Y : Byt lo' w (.slice b m d) ys) (hn : n ≤ most) (hmost : most ≤ 100000) (hlo : lo ≤ w.heap.size) :
    Calls Try.prog 51 #[.pointer (some ⟨p, 0, none⟩), .slice b m d] w (LayPost lo c a w (rawW most (zs, 0) ys)) := by
  have hz : zs.length = n := by
    obtain ⟨_, _, e, _⟩ := ownb_seg O
    simp only [Value.slice.injEq] at e
    exact e.2.1.symm
  have hy := Y.len.1
  unfold rawW
  rw [if_pos rfl]
  by_cases h : most < n + m
  · rw [if_pos (by show most < zs.length + ys.length; omega)]
    refine (olay_long (b := b) (d := d) P C h hn hmost).mono ?_
    rintro e w' ⟨rfl, hb⟩
    exact LayPost.same rfl C O hb
  · rw [if_neg (by show ¬ most < zs.length + ys.length; omega)]
    refine (olay_some P C O Y (by omega) hmost hlo).mono ?_
    rintro e w' ⟨a', cap', rfl, C', O', S', W'⟩
    exact ⟨a', n + m, cap', 0, er, fa, rfl, C', O', S', W'⟩
theorem ostep_w {lo p c most n cap : Nat} {a : Option Addr} {s : List Int × Int} {w : World} (H : PW lo w p c most a n cap s) (J : Nat) (caps : Array Value) (hJ : ∀ (args : Array Value) (w : World), (callFunc J args).run Try.prog w = .ok (.enter J args) w) (s' : List Int × Int) (hle : s'.1.length ≤ most) (hs : ¬ s.2 = 0 → s' = s)
    (hon : s.2 = 0 → ∀ W, Below w.heap.size w W → Calls Try.prog J caps W (LayPost lo c a W s')) :
    Calls Try.prog 46 #[.pointer (some ⟨c, 0, none⟩), .func (.func J) #[] caps] w fun e w' => ∃ (a' : Option Addr) (n' cap' : Nat) (y : Int), e = .returned (.agg #[.int .i64 s'.2, .int .i64 y]) ∧ PW lo w' p c most a' n' cap' s' ∧ Spared (fun k => k = c ∨ rowOf a k) w w' ∧ Went w a a' := by
  obtain ⟨fa, C⟩ := H.cur
  by_cases h0 : s.2 = 0
  · rw [h0] at C
    refine (ostep_on C J caps hJ (rowOf a) (fun k hk => (H.row hk).2.1) (fun x y sv' a1 w2 => x = s'.2 ∧ ∃ (a' : Option Addr) (n' cap' : Nat), sv' = .slice a' n' cap' ∧ a1 = n' ∧ OwnB lo w2 (.slice a' n' cap') s'.1 ∧ ∀ k, rowOf a' k → rowOf a k ∨ w.heap.size + 2 ≤ k) (fun W hW hsz => (hon h0 W hW).mono ?_)).mono ?_
    · rintro e w2 ⟨a', n', cap', y, er', fa', rfl, C', O', S', W'⟩
      exact ⟨s'.2, y, _, _, er', fa', rfl, C', S', rfl, a', n', cap', rfl, rfl, O', fun k hk => by rw [← hsz]; exact W' k hk⟩
    · rintro e w3 ⟨x, y, sv', a1, w2, rfl, ⟨rfl, a', n', cap', rfl, rfl, O', W'⟩, C3, S3, S23⟩
      have O3 := O'.spared S23 (fun k hk => by
        rw [rowOf_eq] at hk
        rcases W' k hk with h | h
        · have := H.row h; omega
        · have := C.lt; omega)
      have hn' : n' = s'.1.length := by
        obtain ⟨_, _, e, _⟩ := ownb_seg O3
        simp only [Value.slice.injEq] at e
        exact e.2.1
      exact ⟨a', n', cap', y, rfl, ⟨Box.spared H.wri S3 (fun h => h.elim (fun h => H.ne h) (fun h => (H.row h).2.2.2 rfl)), ⟨y, C3⟩, O3, by omega, H.most, Nat.le_trans H.lo_ S3.size⟩, S3, fun k hk => (W' k hk).imp id (fun h => by omega)⟩
  · rw [hs h0]
    refine (ostep_stays C h0 J caps).mono ?_
    rintro e w' ⟨rfl, C', S'⟩
    exact ⟨a, n, cap, fa, rfl, ⟨Box.spared H.wri S' H.ne, ⟨fa, C'⟩, H.own.spared S' (fun k hk => by rw [rowOf_eq] at hk; exact (H.row hk).2.2.1), H.le, H.most, Nat.le_trans H.lo_ S'.size⟩, S'.mono (fun _ _ h => .inl h), Went.refl _ _⟩
set_option maxRecDepth 100000 in
set_option maxHeartbeats 1000000 in
theorem ownone_no {p c most : Nat} {w : World} (P : Wri w p c most) : Calls Try.prog 45 #[.pointer (some ⟨p, 0, none⟩)] w fun e w' => e = .returned (.bool false) ∧ w' = w := by
  obtain ⟨h, _, _, _⟩ := P.two
  go_enter Try.func45, Try.ntmps45
  go_wp2
  go_ret
  exact ⟨rfl, rfl⟩
theorem run_fault_err (x y : Int) (w : World) : (Instr.field 62 (.agg #[.int .i64 x, .int .i64 y]) 0).run Try.prog w = .ok (.int .i64 x) w := by kernel_rfl
theorem enter_oWRaw1 (args : Array Value) (w : World) : (callFunc 52 args).run Try.prog w = .ok (.enter 52 args) w := by kernel_rfl
theorem enter_oWPut1 (args : Array Value) (w : World) : (callFunc 47 args).run Try.prog w = .ok (.enter 47 args) w := by kernel_rfl
theorem lay_store {lo c n' cap' : Nat} {a a' : Option Addr} {s : List Int × Int} {y er' fa' : Int} {w W1 w2 : World} (B : Below w.heap.size w W1) (hz : w.heap.size < W1.heap.size) (hc : c < w.heap.size) (hr : ∀ k, rowOf a k → k < w.heap.size) (C : Cur w2 c (.slice a' n' cap') n' er' fa') (O : OwnB lo w2 (.slice a' n' cap') s.1) (S : Spared (fun k => k = c ∨ rowOf a k) W1 w2) (W : Went W1 a a') (u v : Value) :
    LayPost lo c a w s (.returned (.agg #[.int .i64 s.2, .int .i64 y])) ((w2.setCell ⟨w.heap.size, 0, none⟩ u).setCell ⟨w.heap.size, 1, none⟩ v) := by
  have S5 : Spared (fun k => k = w.heap.size) w2 ((w2.setCell ⟨w.heap.size, 0, none⟩ u).setCell ⟨w.heap.size, 1, none⟩ v) := ((Spared.refl (fun k => k = w.heap.size) w2).setCell (k := w.heap.size) rfl 0 _).setCell (k := w.heap.size) rfl 1 _
  refine ⟨a', n', cap', y, er', fa', rfl, Box.spared C S5 (by omega), O.spared S5 (fun k hk => ?_), (Spared.ahead B S).next S5 (fun i hi h => by omega), fun k hk => (W k hk).imp id (fun h => by omega)⟩
  rw [rowOf_eq] at hk
  rcases W k hk with h | h
  · have := hr k h; omega
  · omega
theorem lay_result {c : Nat} {a : Option Addr} {w W1 w2 : World} (R : Box W1 w.heap.size fz) (hc : c < w.heap.size) (hr : ∀ k, rowOf a k → k < w.heap.size) (S : Spared (fun k => k = c ∨ rowOf a k) W1 w2) : Box w2 w.heap.size fz :=
  R.spared S (fun h => h.elim (fun h => by omega) (fun h => by have := hr _ h; omega))
set_option maxRecDepth 100000 in
set_option maxHeartbeats 1000000 in
theorem oraw1_any {lo lo' p c most n cap m d A B : Nat} {a b : Option Addr} {s : List Int × Int} {ys : List Int} {w : World} (H : PW lo w p c most a n cap s) (h0 : s.2 = 0) (Y : Byt lo' w (.slice b m d) ys) (hA : Box w A (.cells #[.pointer (some ⟨p, 0, none⟩)] 49)) (hB : Box w B (.cells #[.slice b m d] 22)) :
    Calls Try.prog 52 #[.pointer (some ⟨A, 0, none⟩), .pointer (some ⟨B, 0, none⟩)] w (LayPost lo c a w (rawW most s ys)) := by
  obtain ⟨fa, C⟩ := H.cur
  have B1 := below_new w fz
  have hl := olay_any (w := w.alloc fz) (Box.below H.wri B1) (Box.below C B1) (H.own.below B1) (Y.below B1) H.le H.most (Nat.le_trans H.lo_ B1.size)
  have hs : (s.1, (0 : Int)) = s := by rw [← h0]
  rw [hs] at hl
  have hcl := hide C.lt
  have hrl := hide (fun k (hk : rowOf a k) => (H.row hk).2.1)
  obtain ⟨a0, _⟩ := one_of (hA.below B1)
  obtain ⟨b0, _⟩ := one_of (hB.below B1)
  obtain ⟨s', hs'⟩ : ∃ s', rawW most s ys = s' := ⟨_, rfl⟩
  rw [hs'] at hl ⊢
  unfold fz at hl a0 b0
  clear H Y hA hB C B1 hs h0 hs'
  go_enter Try.func52, Try.ntmps52
  go_wp2_with fail
  refine hl.mono ?_
  rintro e w2 ⟨a', n', cap', y, er', fa', rfl, C', O', S', W'⟩
  have R2 := lay_result (Box.new w fz) hcl.out hrl.out S'
  have hfin := fun u v => lay_store (y := y) (below_new w fz) (by rw [World.size_alloc]; omega) hcl.out hrl.out C' O' S' W' u v
  have HF := hide hfin
  have HR := hide R2
  obtain ⟨r0, r1, f0, f1⟩ := R2.two
  clear hl a0 b0 R2 hfin C' O' S' W'
  go_wp2
  clear r0 r1 f0 f1
  obtain ⟨g0, g1, _, _⟩ := (HR.out.set2 (.int .i64 s'.2) (.int .i64 y)).two
  refine bodyPost_ret (v := .agg #[.int .i64 s'.2, .int .i64 y]) (by simp [results, Try.f52, go_sem, g0, g1]) rfl ?_
  exact HF.out _ _
theorem rawW_len {most : Nat} {s : List Int × Int} {ys : List Int} (h : s.1.length ≤ most) : (rawW most s ys).1.length ≤ most := by
  unfold rawW
  split
  · split
    · exact h
    · show (s.1 ++ ys).length ≤ most
      rw [List.length_append]
      omega
  · exact h
theorem rawW_stays {most : Nat} {s : List Int × Int} {ys : List Int} (h : ¬ s.2 = 0) : rawW most s ys = s := if_neg h
def WriPost (lo p c most : Nat) (a : Option Addr) (w : World) (s' : List Int × Int) (e : Ending) (w' : World) : Prop :=
  ∃ (a' : Option Addr) (n' cap' : Nat), e = .returned (.int .i64 s'.2) ∧ PW lo w' p c most a' n' cap' s' ∧ Spared (fun k => k = c ∨ rowOf a k) w w' ∧ Went w a a'
set_option maxRecDepth 100000 in
set_option maxHeartbeats 2000000 in
theorem oraw_any {lo lo' p c most n cap m d : Nat} {a b : Option Addr} {s : List Int × Int} {ys : List Int} {w : World} (H : PW lo w p c most a n cap s) (Y : Byt lo' w (.slice b m d) ys) :
    Calls Try.prog 32 #[.pointer (some ⟨p, 0, none⟩), .slice b m d] w (WriPost lo p c most a w (rawW most s ys)) := by
  have hmf : ∀ (fn : Fn) (first cap : Array Value) (w : World), (Instr.makeFunc fn first cap).run Try.prog w = .ok (.func fn first cap) w := fun _ _ _ _ => rfl
  have hfe := run_fault_err
  have B1 := below_new w (.cells #[.pointer (some ⟨p, 0, none⟩)] 49)
  have A1 := Box.new w (.cells #[.pointer (some ⟨p, 0, none⟩)] 49)
  have B2 := below_new (w.alloc (.cells #[.pointer (some ⟨p, 0, none⟩)] 49)) (.cells #[.slice b m d] 22)
  have A2 := A1.below B2
  have D2 := Box.put (w := w.alloc (.cells #[.pointer (some ⟨p, 0, none⟩)] 49)) (k := w.heap.size + 1) (.cells #[.slice b m d] 22) (by simp)
  have B := B1.trans (B2.mono B1.size)
  have H2 := H.below B
  have Y2 := Y.below B
  have hno := ownone_no H2.wri
  have hst := ostep_w H2 52 #[.pointer (some ⟨w.heap.size, 0, none⟩), .pointer (some ⟨w.heap.size + 1, 0, none⟩)] enter_oWRaw1 (rawW most s ys) (rawW_len (by rw [H.len]; exact H.le)) (fun h => rawW_stays h) (fun h0 W hW => oraw1_any (H2.below hW) h0 (Y2.below hW) (A2.below hW) (D2.below hW))
  have HB := hide B
  obtain ⟨a0, _⟩ := one_of A2
  obtain ⟨p0, _, _, _⟩ := H2.wri.two
  clear B1 A1 B2 A2 D2 B H2 Y2 H Y
  obtain ⟨s', hs'⟩ : ∃ s', rawW most s ys = s' := ⟨_, rfl⟩
  rw [hs'] at hst ⊢
  clear hs'
  go_enter Try.func32, Try.ntmps32
  go_wp2_with fail
  refine hno.mono ?_
  rintro e w1 ⟨rfl, rfl⟩
  clear hno
  go_wp2_with fail
  refine hst.mono ?_
  rintro e w3 ⟨a', n', cap', y, rfl, H', S', W'⟩
  have HH := hide H'
  have HS := hide (Spared.ahead HB.out S')
  have HW : Hid (Went w a a') := fun k hk => (W' k hk).imp id (fun h => Nat.le_trans HB.out.size h)
  clear hst H' S' W' HB a0 p0
  go_wp2
  go_ret
  exact ⟨a', n', cap', rfl, HH.out, HS.out, HW.out⟩
theorem putW_len {most : Nat} {s : List Int × Int} {k x : Int} (h : s.1.length ≤ most) : (putW most s k x).1.length ≤ most := by
  unfold putW
  split
  · split
    · split
      · exact rawW_len h
      · exact h
    · exact h
  · exact h
theorem putW_stays {most : Nat} {s : List Int × Int} {k x : Int} (h : ¬ s.2 = 0) : putW most s k x = s := if_neg h
structure PutIn (w : World) (A B D p : Nat) (k x : Int) : Prop where
  a : Box w A (.cells #[.int .i64 k] 3)
  b : Box w B (.cells #[.pointer (some ⟨p, 0, none⟩)] 49)
  d : Box w D (.cells #[.int .i64 x] 3)
theorem PutIn.below {w w' : World} {A B D p : Nat} {k x : Int} (h : PutIn w A B D p k x) (hb : Below w.heap.size w w') : PutIn w' A B D p k x := ⟨h.a.below hb, h.b.below hb, h.d.below hb⟩
set_option maxRecDepth 100000 in
set_option maxHeartbeats 2000000 in
theorem oput1_arg {lo p c most n cap A B D : Nat} {a : Option Addr} {s : List Int × Int} {k x : Int} {w : World} (H : PW lo w p c most a n cap s) (I : PutIn w A B D p k x) (hk : ¬ IsW k) :
    Calls Try.prog 47 #[.pointer (some ⟨A, 0, none⟩), .pointer (some ⟨B, 0, none⟩), .pointer (some ⟨D, 0, none⟩)] w (LayPost lo c a w (s.1, 2)) := by
  obtain ⟨fa, C⟩ := H.cur
  have B1 := below_new w fz
  have I1 := I.below B1
  have H1 := H.below B1
  have hi := oisw_any k (w.alloc fz)
  rw [show decide (IsW k) = false from decide_eq_false hk] at hi
  clear hk
  have hh := ohere_any (w := w.alloc fz) (Box.below C B1) 2
  obtain ⟨a0, _⟩ := one_of I1.a
  obtain ⟨b0, _⟩ := one_of I1.b
  obtain ⟨d0, _⟩ := one_of I1.d
  obtain ⟨p0, _, _, _⟩ := H1.wri.two
  have HR := hide (Box.new w fz)
  have HB := hide B1
  have HC := hide C
  have HO := hide H.own
  clear I I1 H H1 B1 C
  unfold fz at hi hh a0 b0 d0 p0
  go_enter Try.func47, Try.ntmps47
  go_wp2_with fail
  refine hi.mono ?_
  rintro e w1 ⟨rfl, rfl⟩
  clear hi
  go_wp2_with fail
  refine hh.mono ?_
  rintro e w2 ⟨rfl, b2⟩
  have R2 := HR.out.below b2
  obtain ⟨r0, r1, f0, f1⟩ := R2.two
  have HR2 := hide R2
  have HB2 := hide (HB.out.trans (Below.mono b2 HB.out.size))
  clear hh R2 b2 a0 b0 d0 p0 HR HB
  go_wp2
  clear r0 r1 f0 f1
  obtain ⟨g0, g1, _, _⟩ := (HR2.out.set2 (.int .i64 2) (.int .i64 (n : Nat))).two
  have HBZ := (HB2.out.setCell (p := ⟨w.heap.size, 0, none⟩) (Nat.le_refl _) (.int .i64 2)).setCell (p := ⟨w.heap.size, 1, none⟩) (Nat.le_refl _) (.int .i64 (n : Nat))
  refine bodyPost_ret (v := .agg #[.int .i64 2, .int .i64 (n : Nat)]) (by simp [results, Try.f47, go_sem, g0, g1]) rfl ?_
  exact LayPost.same rfl HC.out HO.out HBZ
set_option maxRecDepth 100000 in
set_option maxHeartbeats 2000000 in
theorem oput1_neg {lo p c most n cap A B D : Nat} {a : Option Addr} {s : List Int × Int} {k x : Int} {w : World} (H : PW lo w p c most a n cap s) (I : PutIn w A B D p k x) (hk : IsW k) (hq : x < 0) :
    Calls Try.prog 47 #[.pointer (some ⟨A, 0, none⟩), .pointer (some ⟨B, 0, none⟩), .pointer (some ⟨D, 0, none⟩)] w (LayPost lo c a w (s.1, 3)) := by
  obtain ⟨fa, C⟩ := H.cur
  have B1 := below_new w fz
  have I1 := I.below B1
  have H1 := H.below B1
  have hi := oisw_any k (w.alloc fz)
  rw [show decide (IsW k) = true from decide_eq_true hk] at hi
  clear hk
  have hh := ohere_any (w := w.alloc fz) (Box.below C B1) 3
  obtain ⟨a0, _⟩ := one_of I1.a
  obtain ⟨b0, _⟩ := one_of I1.b
  obtain ⟨d0, _⟩ := one_of I1.d
  obtain ⟨p0, _, _, _⟩ := H1.wri.two
  have HR := hide (Box.new w fz)
  have HB := hide B1
  have HC := hide C
  have HO := hide H.own
  clear I I1 H H1 B1 C
  unfold fz at hi hh a0 b0 d0 p0
  go_enter Try.func47, Try.ntmps47
  go_wp2_with fail
  refine hi.mono ?_
  rintro e w1 ⟨rfl, rfl⟩
  clear hi
  go_wp2_with fail
  refine hh.mono ?_
  rintro e w2 ⟨rfl, b2⟩
  have R2 := HR.out.below b2
  obtain ⟨r0, r1, f0, f1⟩ := R2.two
  have HR2 := hide R2
  have HB2 := hide (HB.out.trans (Below.mono b2 HB.out.size))
  clear hh R2 b2 a0 b0 d0 p0 HR HB
  go_wp2
  clear r0 r1 f0 f1
  obtain ⟨g0, g1, _, _⟩ := (HR2.out.set2 (.int .i64 3) (.int .i64 (n : Nat))).two
  have HBZ := (HB2.out.setCell (p := ⟨w.heap.size, 0, none⟩) (Nat.le_refl _) (.int .i64 3)).setCell (p := ⟨w.heap.size, 1, none⟩) (Nat.le_refl _) (.int .i64 (n : Nat))
  refine bodyPost_ret (v := .agg #[.int .i64 3, .int .i64 (n : Nat)]) (by simp [results, Try.f47, go_sem, g0, g1]) rfl ?_
  exact LayPost.same rfl HC.out HO.out HBZ
set_option maxRecDepth 100000 in
set_option maxHeartbeats 2000000 in
theorem oput1_big1 {lo p c most n cap A B D : Nat} {a : Option Addr} {s : List Int × Int} {x : Int} {w : World} (H : PW lo w p c most a n cap s) (I : PutIn w A B D p 1 x) (hn : ¬ x < 0) (hq : (x / 256 != 0) = true) :
    Calls Try.prog 47 #[.pointer (some ⟨A, 0, none⟩), .pointer (some ⟨B, 0, none⟩), .pointer (some ⟨D, 0, none⟩)] w (LayPost lo c a w (s.1, 3)) := by
  obtain ⟨fa, C⟩ := H.cur
  have B1 := below_new w fz
  have I1 := I.below B1
  have H1 := H.below B1
  have hi := oisw_any 1 (w.alloc fz)
  rw [show decide (IsW 1) = true from rfl] at hi
  have hh := ohere_any (w := w.alloc fz) (Box.below C B1) 3
  obtain ⟨a0, _⟩ := one_of I1.a
  obtain ⟨b0, _⟩ := one_of I1.b
  obtain ⟨d0, _⟩ := one_of I1.d
  obtain ⟨p0, _, _, _⟩ := H1.wri.two
  have HR := hide (Box.new w fz)
  have HB := hide B1
  have HC := hide C
  have HO := hide H.own
  clear I I1 H H1 B1 C
  unfold fz at hi hh a0 b0 d0 p0
  go_enter Try.func47, Try.ntmps47
  go_wp2_with fail
  refine hi.mono ?_
  rintro e w1 ⟨rfl, rfl⟩
  clear hi
  go_wp2_with fail
  refine hh.mono ?_
  rintro e w2 ⟨rfl, b2⟩
  have R2 := HR.out.below b2
  obtain ⟨r0, r1, f0, f1⟩ := R2.two
  have HR2 := hide R2
  have HB2 := hide (HB.out.trans (Below.mono b2 HB.out.size))
  clear hh R2 b2 a0 b0 d0 p0 HR HB
  go_wp2
  clear r0 r1 f0 f1
  obtain ⟨g0, g1, _, _⟩ := (HR2.out.set2 (.int .i64 3) (.int .i64 (n : Nat))).two
  have HBZ := (HB2.out.setCell (p := ⟨w.heap.size, 0, none⟩) (Nat.le_refl _) (.int .i64 3)).setCell (p := ⟨w.heap.size, 1, none⟩) (Nat.le_refl _) (.int .i64 (n : Nat))
  refine bodyPost_ret (v := .agg #[.int .i64 3, .int .i64 (n : Nat)]) (by simp [results, Try.f47, go_sem, g0, g1]) rfl ?_
  exact LayPost.same rfl HC.out HO.out HBZ
set_option maxRecDepth 100000 in
set_option maxHeartbeats 2000000 in
theorem oput1_big2 {lo p c most n cap A B D : Nat} {a : Option Addr} {s : List Int × Int} {x : Int} {w : World} (H : PW lo w p c most a n cap s) (I : PutIn w A B D p 2 x) (hn : ¬ x < 0) (hq : (x / 65536 != 0) = true) :
    Calls Try.prog 47 #[.pointer (some ⟨A, 0, none⟩), .pointer (some ⟨B, 0, none⟩), .pointer (some ⟨D, 0, none⟩)] w (LayPost lo c a w (s.1, 3)) := by
  obtain ⟨fa, C⟩ := H.cur
  have B1 := below_new w fz
  have I1 := I.below B1
  have H1 := H.below B1
  have hi := oisw_any 2 (w.alloc fz)
  rw [show decide (IsW 2) = true from rfl] at hi
  have hh := ohere_any (w := w.alloc fz) (Box.below C B1) 3
  obtain ⟨a0, _⟩ := one_of I1.a
  obtain ⟨b0, _⟩ := one_of I1.b
  obtain ⟨d0, _⟩ := one_of I1.d
  obtain ⟨p0, _, _, _⟩ := H1.wri.two
  have HR := hide (Box.new w fz)
  have HB := hide B1
  have HC := hide C
  have HO := hide H.own
  clear I I1 H H1 B1 C
  unfold fz at hi hh a0 b0 d0 p0
  go_enter Try.func47, Try.ntmps47
  go_wp2_with fail
  refine hi.mono ?_
  rintro e w1 ⟨rfl, rfl⟩
  clear hi
  go_wp2_with fail
  refine hh.mono ?_
  rintro e w2 ⟨rfl, b2⟩
  have R2 := HR.out.below b2
  obtain ⟨r0, r1, f0, f1⟩ := R2.two
  have HR2 := hide R2
  have HB2 := hide (HB.out.trans (Below.mono b2 HB.out.size))
  clear hh R2 b2 a0 b0 d0 p0 HR HB
  go_wp2
  clear r0 r1 f0 f1
  obtain ⟨g0, g1, _, _⟩ := (HR2.out.set2 (.int .i64 3) (.int .i64 (n : Nat))).two
  have HBZ := (HB2.out.setCell (p := ⟨w.heap.size, 0, none⟩) (Nat.le_refl _) (.int .i64 3)).setCell (p := ⟨w.heap.size, 1, none⟩) (Nat.le_refl _) (.int .i64 (n : Nat))
  refine bodyPost_ret (v := .agg #[.int .i64 3, .int .i64 (n : Nat)]) (by simp [results, Try.f47, go_sem, g0, g1]) rfl ?_
  exact LayPost.same rfl HC.out HO.out HBZ
set_option maxRecDepth 100000 in
set_option maxHeartbeats 2000000 in
theorem oput1_big4 {lo p c most n cap A B D : Nat} {a : Option Addr} {s : List Int × Int} {x : Int} {w : World} (H : PW lo w p c most a n cap s) (I : PutIn w A B D p 4 x) (hn : ¬ x < 0) (hq : (x / 4294967296 != 0) = true) :
    Calls Try.prog 47 #[.pointer (some ⟨A, 0, none⟩), .pointer (some ⟨B, 0, none⟩), .pointer (some ⟨D, 0, none⟩)] w (LayPost lo c a w (s.1, 3)) := by
  obtain ⟨fa, C⟩ := H.cur
  have B1 := below_new w fz
  have I1 := I.below B1
  have H1 := H.below B1
  have hi := oisw_any 4 (w.alloc fz)
  rw [show decide (IsW 4) = true from rfl] at hi
  have hh := ohere_any (w := w.alloc fz) (Box.below C B1) 3
  obtain ⟨a0, _⟩ := one_of I1.a
  obtain ⟨b0, _⟩ := one_of I1.b
  obtain ⟨d0, _⟩ := one_of I1.d
  obtain ⟨p0, _, _, _⟩ := H1.wri.two
  have HR := hide (Box.new w fz)
  have HB := hide B1
  have HC := hide C
  have HO := hide H.own
  clear I I1 H H1 B1 C
  unfold fz at hi hh a0 b0 d0 p0
  go_enter Try.func47, Try.ntmps47
  go_wp2_with fail
  refine hi.mono ?_
  rintro e w1 ⟨rfl, rfl⟩
  clear hi
  go_wp2_with fail
  refine hh.mono ?_
  rintro e w2 ⟨rfl, b2⟩
  have R2 := HR.out.below b2
  obtain ⟨r0, r1, f0, f1⟩ := R2.two
  have HR2 := hide R2
  have HB2 := hide (HB.out.trans (Below.mono b2 HB.out.size))
  clear hh R2 b2 a0 b0 d0 p0 HR HB
  go_wp2
  clear r0 r1 f0 f1
  obtain ⟨g0, g1, _, _⟩ := (HR2.out.set2 (.int .i64 3) (.int .i64 (n : Nat))).two
  have HBZ := (HB2.out.setCell (p := ⟨w.heap.size, 0, none⟩) (Nat.le_refl _) (.int .i64 3)).setCell (p := ⟨w.heap.size, 1, none⟩) (Nat.le_refl _) (.int .i64 (n : Nat))
  refine bodyPost_ret (v := .agg #[.int .i64 3, .int .i64 (n : Nat)]) (by simp [results, Try.f47, go_sem, g0, g1]) rfl ?_
  exact LayPost.same rfl HC.out HO.out HBZ
theorem byt_tail {W : World} {g x k o : Nat} (hk : k ≤ 8) (ho : 8 - k = o) (h : Eig W g (hik x)) : Byt g W (.slice (some ⟨g, o, none⟩) k k) (be k x) :=
  Byt.of_cells (be_octs k x) (be_length k x) (Nat.le_refl _) (Nat.le_refl _) h.lt (fun _ hj => ⟨(cell_of_row W g _ _ _ _ h.what).trans (ho ▸ eig_cell hk hj), h.thaw⟩)
set_option maxRecDepth 100000 in
set_option maxHeartbeats 4000000 in
theorem oput1_1 {lo p c most n cap A B D : Nat} {a : Option Addr} {s : List Int × Int} {x : Nat} {w : World} (H : PW lo w p c most a n cap s) (h0 : s.2 = 0) (I : PutIn w A B D p 1 x) (hx : x < 9223372036854775808) (hq : ((x : Int) / 256 != 0) = false) :
    Calls Try.prog 47 #[.pointer (some ⟨A, 0, none⟩), .pointer (some ⟨B, 0, none⟩), .pointer (some ⟨D, 0, none⟩)] w (LayPost lo c a w (rawW most s (be 1 x))) := by
  obtain ⟨s', hs'⟩ : ∃ s', rawW most s (be 1 x) = s' := ⟨_, rfl⟩
  rw [hs']
  have HS := hide hs'
  clear hs'
  have B1 := below_new w fz
  have I1 := I.below B1
  have H1 := H.below B1
  have hi := oisw_any 1 (w.alloc fz)
  have hn : ¬ (x : Int) < 0 := by omega
  rw [show decide (IsW 1) = true from rfl] at hi
  have hh := ohigh_any x hx (w.alloc fz)
  obtain ⟨a0, _⟩ := one_of I1.a
  obtain ⟨b0, _⟩ := one_of I1.b
  obtain ⟨d0, _⟩ := one_of I1.d
  have HB := hide B1
  have HI := hide I1
  have HH := hide H
  have HX := hide hx
  have H0 := hide h0
  clear I I1 H H1 B1 hx h0
  unfold fz at hi hh a0 b0 d0
  go_enter Try.func47, Try.ntmps47
  go_wp2_with fail
  refine hi.mono ?_
  rintro e w1 ⟨rfl, rfl⟩
  clear hi
  go_wp2_with fail
  refine hh.mono ?_
  rintro e w2 ⟨rfl, b2⟩
  clear hh a0 b0 d0
  have B2 := HB.out.trans (Below.mono b2 HB.out.size)
  have b3 := below_new w2 (.cells (eig (hik x)) 76)
  have I3 := (HI.out.below b2).below b3
  have R3 := ((Box.new w fz).below b2).below b3
  obtain ⟨a0, _⟩ := one_of I3.a
  obtain ⟨b0, _⟩ := one_of I3.b
  have H3 := (HH.out.below B2).below b3
  have T3 : Eig (w2.alloc (.cells (eig (hik x)) 76)) w2.heap.size (hik x) := Box.new w2 _
  have Y3 := byt_tail (k := 1) (by decide) rfl T3
  obtain ⟨fa, C3⟩ := H3.cur
  have hs : (s.1, (0 : Int)) = s := by rw [← H0.out]
  have hl := olay_any (w := (w2.alloc (.cells (eig (hik x)) 76)).drew) H3.wri.drew C3.drew H3.own Y3.drew H3.le H3.most H3.lo_
  rw [hs, HS.out] at hl
  have HB3 : Hid (Below w.heap.size w (w2.alloc (.cells (eig (hik x)) 76)).drew) := (B2.trans (b3.mono B2.size)).drew
  have HR3 : Hid (Box (w2.alloc (.cells (eig (hik x)) 76)).drew w.heap.size fz) := R3.drew
  have hw : IntKind.i64.wrap 7 = 7 := by decide
  clear b2 B2 b3 I3 H3 T3 Y3 C3 hs R3
  go_wp2_with (refine wpList_store_row rfl 76 (.tmp 4) (.tmp 28) rfl w2.heap.size (eig (hik x)) rfl rfl 76 _ (heap_alloc_last w2 _) (eig_info _) (by rw [eig_size]; rfl) (eig_one _) ?_; rw [World.setRow_alloc_new])
  go_region_with
    (go_at_call 51
     refine hl.mono ?_
     rintro e w4 ⟨a', n', cap', y, er', fa', rfl, C', O', S', W'⟩
     have hcl := (HH.out.cur.elim fun _ C => Box.lt C)
     have hrl := fun k (hk : rowOf a k) => (HH.out.row hk).2.1
     have R4 := lay_result HR3.out hcl hrl S'
     have hfin := fun u v => lay_store (y := y) HB3.out HR3.out.lt hcl hrl C' O' S' W' u v
     have HF := hide hfin
     have HR := hide R4
     have hc4 := R4.two
     have r0 := hc4.1
     have r1 := hc4.2.1
     have f0 := hc4.2.2.1
     have f1 := hc4.2.2.2
     clear hc4
     clear hl a0 b0 R4 hfin C' O' S' W' hcl hrl)
  all_goals
    go_wp2
    clear r0 r1 f0 f1
    obtain ⟨g0, g1, _, _⟩ := (HR.out.set2 (.int .i64 s'.2) (.int .i64 y)).two
    refine bodyPost_ret (v := .agg #[.int .i64 s'.2, .int .i64 y]) (by simp [results, Try.f47, go_sem, g0, g1]) rfl ?_
    exact HF.out _ _
set_option maxRecDepth 100000 in
set_option maxHeartbeats 4000000 in
theorem oput1_2 {lo p c most n cap A B D : Nat} {a : Option Addr} {s : List Int × Int} {x : Nat} {w : World} (H : PW lo w p c most a n cap s) (h0 : s.2 = 0) (I : PutIn w A B D p 2 x) (hx : x < 9223372036854775808) (hq : ((x : Int) / 65536 != 0) = false) :
    Calls Try.prog 47 #[.pointer (some ⟨A, 0, none⟩), .pointer (some ⟨B, 0, none⟩), .pointer (some ⟨D, 0, none⟩)] w (LayPost lo c a w (rawW most s (be 2 x))) := by
  obtain ⟨s', hs'⟩ : ∃ s', rawW most s (be 2 x) = s' := ⟨_, rfl⟩
  rw [hs']
  have HS := hide hs'
  clear hs'
  have B1 := below_new w fz
  have I1 := I.below B1
  have H1 := H.below B1
  have hi := oisw_any 2 (w.alloc fz)
  have hn : ¬ (x : Int) < 0 := by omega
  rw [show decide (IsW 2) = true from rfl] at hi
  have hh := ohigh_any x hx (w.alloc fz)
  obtain ⟨a0, _⟩ := one_of I1.a
  obtain ⟨b0, _⟩ := one_of I1.b
  obtain ⟨d0, _⟩ := one_of I1.d
  have HB := hide B1
  have HI := hide I1
  have HH := hide H
  have HX := hide hx
  have H0 := hide h0
  clear I I1 H H1 B1 hx h0
  unfold fz at hi hh a0 b0 d0
  go_enter Try.func47, Try.ntmps47
  go_wp2_with fail
  refine hi.mono ?_
  rintro e w1 ⟨rfl, rfl⟩
  clear hi
  go_wp2_with fail
  refine hh.mono ?_
  rintro e w2 ⟨rfl, b2⟩
  clear hh a0 b0 d0
  have B2 := HB.out.trans (Below.mono b2 HB.out.size)
  have b3 := below_new w2 (.cells (eig (hik x)) 76)
  have I3 := (HI.out.below b2).below b3
  have R3 := ((Box.new w fz).below b2).below b3
  obtain ⟨a0, _⟩ := one_of I3.a
  obtain ⟨b0, _⟩ := one_of I3.b
  have H3 := (HH.out.below B2).below b3
  have T3 : Eig (w2.alloc (.cells (eig (hik x)) 76)) w2.heap.size (hik x) := Box.new w2 _
  have Y3 := byt_tail (k := 2) (by decide) rfl T3
  obtain ⟨fa, C3⟩ := H3.cur
  have hs : (s.1, (0 : Int)) = s := by rw [← H0.out]
  have hl := olay_any (w := (w2.alloc (.cells (eig (hik x)) 76)).drew) H3.wri.drew C3.drew H3.own Y3.drew H3.le H3.most H3.lo_
  rw [hs, HS.out] at hl
  have HB3 : Hid (Below w.heap.size w (w2.alloc (.cells (eig (hik x)) 76)).drew) := (B2.trans (b3.mono B2.size)).drew
  have HR3 : Hid (Box (w2.alloc (.cells (eig (hik x)) 76)).drew w.heap.size fz) := R3.drew
  have hw : IntKind.i64.wrap 6 = 6 := by decide
  clear b2 B2 b3 I3 H3 T3 Y3 C3 hs R3
  go_wp2_with (refine wpList_store_row rfl 76 (.tmp 4) (.tmp 28) rfl w2.heap.size (eig (hik x)) rfl rfl 76 _ (heap_alloc_last w2 _) (eig_info _) (by rw [eig_size]; rfl) (eig_one _) ?_; rw [World.setRow_alloc_new])
  go_region_with
    (go_at_call 51
     refine hl.mono ?_
     rintro e w4 ⟨a', n', cap', y, er', fa', rfl, C', O', S', W'⟩
     have hcl := (HH.out.cur.elim fun _ C => Box.lt C)
     have hrl := fun k (hk : rowOf a k) => (HH.out.row hk).2.1
     have R4 := lay_result HR3.out hcl hrl S'
     have hfin := fun u v => lay_store (y := y) HB3.out HR3.out.lt hcl hrl C' O' S' W' u v
     have HF := hide hfin
     have HR := hide R4
     have hc4 := R4.two
     have r0 := hc4.1
     have r1 := hc4.2.1
     have f0 := hc4.2.2.1
     have f1 := hc4.2.2.2
     clear hc4
     clear hl a0 b0 R4 hfin C' O' S' W' hcl hrl)
  all_goals
    go_wp2
    clear r0 r1 f0 f1
    obtain ⟨g0, g1, _, _⟩ := (HR.out.set2 (.int .i64 s'.2) (.int .i64 y)).two
    refine bodyPost_ret (v := .agg #[.int .i64 s'.2, .int .i64 y]) (by simp [results, Try.f47, go_sem, g0, g1]) rfl ?_
    exact HF.out _ _
set_option maxRecDepth 100000 in
set_option maxHeartbeats 4000000 in
theorem oput1_4 {lo p c most n cap A B D : Nat} {a : Option Addr} {s : List Int × Int} {x : Nat} {w : World} (H : PW lo w p c most a n cap s) (h0 : s.2 = 0) (I : PutIn w A B D p 4 x) (hx : x < 9223372036854775808) (hq : ((x : Int) / 4294967296 != 0) = false) :
    Calls Try.prog 47 #[.pointer (some ⟨A, 0, none⟩), .pointer (some ⟨B, 0, none⟩), .pointer (some ⟨D, 0, none⟩)] w (LayPost lo c a w (rawW most s (be 4 x))) := by
  obtain ⟨s', hs'⟩ : ∃ s', rawW most s (be 4 x) = s' := ⟨_, rfl⟩
  rw [hs']
  have HS := hide hs'
  clear hs'
  have B1 := below_new w fz
  have I1 := I.below B1
  have H1 := H.below B1
  have hi := oisw_any 4 (w.alloc fz)
  have hn : ¬ (x : Int) < 0 := by omega
  rw [show decide (IsW 4) = true from rfl] at hi
  have hh := ohigh_any x hx (w.alloc fz)
  obtain ⟨a0, _⟩ := one_of I1.a
  obtain ⟨b0, _⟩ := one_of I1.b
  obtain ⟨d0, _⟩ := one_of I1.d
  have HB := hide B1
  have HI := hide I1
  have HH := hide H
  have HX := hide hx
  have H0 := hide h0
  clear I I1 H H1 B1 hx h0
  unfold fz at hi hh a0 b0 d0
  go_enter Try.func47, Try.ntmps47
  go_wp2_with fail
  refine hi.mono ?_
  rintro e w1 ⟨rfl, rfl⟩
  clear hi
  go_wp2_with fail
  refine hh.mono ?_
  rintro e w2 ⟨rfl, b2⟩
  clear hh a0 b0 d0
  have B2 := HB.out.trans (Below.mono b2 HB.out.size)
  have b3 := below_new w2 (.cells (eig (hik x)) 76)
  have I3 := (HI.out.below b2).below b3
  have R3 := ((Box.new w fz).below b2).below b3
  obtain ⟨a0, _⟩ := one_of I3.a
  obtain ⟨b0, _⟩ := one_of I3.b
  have H3 := (HH.out.below B2).below b3
  have T3 : Eig (w2.alloc (.cells (eig (hik x)) 76)) w2.heap.size (hik x) := Box.new w2 _
  have Y3 := byt_tail (k := 4) (by decide) rfl T3
  obtain ⟨fa, C3⟩ := H3.cur
  have hs : (s.1, (0 : Int)) = s := by rw [← H0.out]
  have hl := olay_any (w := (w2.alloc (.cells (eig (hik x)) 76)).drew) H3.wri.drew C3.drew H3.own Y3.drew H3.le H3.most H3.lo_
  rw [hs, HS.out] at hl
  have HB3 : Hid (Below w.heap.size w (w2.alloc (.cells (eig (hik x)) 76)).drew) := (B2.trans (b3.mono B2.size)).drew
  have HR3 : Hid (Box (w2.alloc (.cells (eig (hik x)) 76)).drew w.heap.size fz) := R3.drew
  have hw : IntKind.i64.wrap 4 = 4 := by decide
  clear b2 B2 b3 I3 H3 T3 Y3 C3 hs R3
  go_wp2_with (refine wpList_store_row rfl 76 (.tmp 4) (.tmp 28) rfl w2.heap.size (eig (hik x)) rfl rfl 76 _ (heap_alloc_last w2 _) (eig_info _) (by rw [eig_size]; rfl) (eig_one _) ?_; rw [World.setRow_alloc_new])
  go_region_with
    (go_at_call 51
     refine hl.mono ?_
     rintro e w4 ⟨a', n', cap', y, er', fa', rfl, C', O', S', W'⟩
     have hcl := (HH.out.cur.elim fun _ C => Box.lt C)
     have hrl := fun k (hk : rowOf a k) => (HH.out.row hk).2.1
     have R4 := lay_result HR3.out hcl hrl S'
     have hfin := fun u v => lay_store (y := y) HB3.out HR3.out.lt hcl hrl C' O' S' W' u v
     have HF := hide hfin
     have HR := hide R4
     have hc4 := R4.two
     have r0 := hc4.1
     have r1 := hc4.2.1
     have f0 := hc4.2.2.1
     have f1 := hc4.2.2.2
     clear hc4
     clear hl a0 b0 R4 hfin C' O' S' W' hcl hrl)
  all_goals
    go_wp2
    clear r0 r1 f0 f1
    obtain ⟨g0, g1, _, _⟩ := (HR.out.set2 (.int .i64 s'.2) (.int .i64 y)).two
    refine bodyPost_ret (v := .agg #[.int .i64 s'.2, .int .i64 y]) (by simp [results, Try.f47, go_sem, g0, g1]) rfl ?_
    exact HF.out _ _
set_option maxRecDepth 100000 in
set_option maxHeartbeats 4000000 in
theorem oput1_8 {lo p c most n cap A B D : Nat} {a : Option Addr} {s : List Int × Int} {x : Nat} {w : World} (H : PW lo w p c most a n cap s) (h0 : s.2 = 0) (I : PutIn w A B D p 8 x) (hx : x < 9223372036854775808) (hq : ((x : Int) / 18446744073709551616 != 0) = false) :
    Calls Try.prog 47 #[.pointer (some ⟨A, 0, none⟩), .pointer (some ⟨B, 0, none⟩), .pointer (some ⟨D, 0, none⟩)] w (LayPost lo c a w (rawW most s (be 8 x))) := by
  obtain ⟨s', hs'⟩ : ∃ s', rawW most s (be 8 x) = s' := ⟨_, rfl⟩
  rw [hs']
  have HS := hide hs'
  clear hs'
  have B1 := below_new w fz
  have I1 := I.below B1
  have H1 := H.below B1
  have hi := oisw_any 8 (w.alloc fz)
  have hn : ¬ (x : Int) < 0 := by omega
  rw [show decide (IsW 8) = true from rfl] at hi
  have hh := ohigh_any x hx (w.alloc fz)
  obtain ⟨a0, _⟩ := one_of I1.a
  obtain ⟨b0, _⟩ := one_of I1.b
  obtain ⟨d0, _⟩ := one_of I1.d
  have HB := hide B1
  have HI := hide I1
  have HH := hide H
  have HX := hide hx
  have H0 := hide h0
  clear I I1 H H1 B1 hx h0
  unfold fz at hi hh a0 b0 d0
  go_enter Try.func47, Try.ntmps47
  go_wp2_with fail
  refine hi.mono ?_
  rintro e w1 ⟨rfl, rfl⟩
  clear hi
  go_wp2_with fail
  refine hh.mono ?_
  rintro e w2 ⟨rfl, b2⟩
  clear hh a0 b0 d0
  have B2 := HB.out.trans (Below.mono b2 HB.out.size)
  have b3 := below_new w2 (.cells (eig (hik x)) 76)
  have I3 := (HI.out.below b2).below b3
  have R3 := ((Box.new w fz).below b2).below b3
  obtain ⟨a0, _⟩ := one_of I3.a
  obtain ⟨b0, _⟩ := one_of I3.b
  have H3 := (HH.out.below B2).below b3
  have T3 : Eig (w2.alloc (.cells (eig (hik x)) 76)) w2.heap.size (hik x) := Box.new w2 _
  have Y3 := byt_tail (k := 8) (by decide) rfl T3
  obtain ⟨fa, C3⟩ := H3.cur
  have hs : (s.1, (0 : Int)) = s := by rw [← H0.out]
  have hl := olay_any (w := (w2.alloc (.cells (eig (hik x)) 76)).drew) H3.wri.drew C3.drew H3.own Y3.drew H3.le H3.most H3.lo_
  rw [hs, HS.out] at hl
  have HB3 : Hid (Below w.heap.size w (w2.alloc (.cells (eig (hik x)) 76)).drew) := (B2.trans (b3.mono B2.size)).drew
  have HR3 : Hid (Box (w2.alloc (.cells (eig (hik x)) 76)).drew w.heap.size fz) := R3.drew
  have hw : IntKind.i64.wrap 0 = 0 := by decide
  clear b2 B2 b3 I3 H3 T3 Y3 C3 hs R3
  go_wp2_with (refine wpList_store_row rfl 76 (.tmp 4) (.tmp 28) rfl w2.heap.size (eig (hik x)) rfl rfl 76 _ (heap_alloc_last w2 _) (eig_info _) (by rw [eig_size]; rfl) (eig_one _) ?_; rw [World.setRow_alloc_new])
  go_region_with
    (go_at_call 51
     refine hl.mono ?_
     rintro e w4 ⟨a', n', cap', y, er', fa', rfl, C', O', S', W'⟩
     have hcl := (HH.out.cur.elim fun _ C => Box.lt C)
     have hrl := fun k (hk : rowOf a k) => (HH.out.row hk).2.1
     have R4 := lay_result HR3.out hcl hrl S'
     have hfin := fun u v => lay_store (y := y) HB3.out HR3.out.lt hcl hrl C' O' S' W' u v
     have HF := hide hfin
     have HR := hide R4
     have hc4 := R4.two
     have r0 := hc4.1
     have r1 := hc4.2.1
     have f0 := hc4.2.2.1
     have f1 := hc4.2.2.2
     clear hc4
     clear hl a0 b0 R4 hfin C' O' S' W' hcl hrl)
  all_goals
    go_wp2
    clear r0 r1 f0 f1
    obtain ⟨g0, g1, _, _⟩ := (HR.out.set2 (.int .i64 s'.2) (.int .i64 y)).two
    refine bodyPost_ret (v := .agg #[.int .i64 s'.2, .int .i64 y]) (by simp [results, Try.f47, go_sem, g0, g1]) rfl ?_
    exact HF.out _ _
theorem putW_ok {most : Nat} {s : List Int × Int} {k x : Int} (h0 : s.2 = 0) (hw : IsW k) (hf : Fits k x) : putW most s k x = rawW most s (be k.toNat x.toNat) := by
  unfold putW; rw [if_pos h0, if_pos hw, if_pos hf]
theorem putW_range {most : Nat} {s : List Int × Int} {k x : Int} (h0 : s.2 = 0) (hw : IsW k) (hf : ¬ Fits k x) : putW most s k x = (s.1, 3) := by
  unfold putW; rw [if_pos h0, if_pos hw, if_neg hf]
theorem putW_arg {most : Nat} {s : List Int × Int} {k x : Int} (h0 : s.2 = 0) (hw : ¬ IsW k) : putW most s k x = (s.1, 2) := by
  unfold putW; rw [if_pos h0, if_neg hw]
theorem fits_1 (x : Int) : Fits 1 x ↔ 0 ≤ x ∧ x < 256 := by
  have : (256 : Int) ^ (1 : Int).toNat = 256 := by decide
  unfold Fits; rw [this]
theorem fits_2 (x : Int) : Fits 2 x ↔ 0 ≤ x ∧ x < 65536 := by
  have : (256 : Int) ^ (2 : Int).toNat = 65536 := by decide
  unfold Fits; rw [this]
theorem fits_4 (x : Int) : Fits 4 x ↔ 0 ≤ x ∧ x < 4294967296 := by
  have : (256 : Int) ^ (4 : Int).toNat = 4294967296 := by decide
  unfold Fits; rw [this]
theorem fits_8 (x : Int) (h : x ≤ 9223372036854775807) : Fits 8 x ↔ 0 ≤ x := by
  have : (256 : Int) ^ (8 : Int).toNat = 18446744073709551616 := by decide
  unfold Fits; rw [this]; omega
theorem div_none {x q : Int} (h0 : 0 ≤ x) (h : x < q) : (x / q != 0) = false := by
  rw [Int.ediv_eq_zero_of_lt h0 h]; rfl
theorem div_some {x q : Int} (hq : 0 < q) (h : q ≤ x) : (x / q != 0) = true := by
  have h1 : 1 ≤ x / q := (Int.le_ediv_iff_mul_le hq).2 (by omega)
  have : x / q ≠ 0 := by omega
  simpa using this
theorem oput1_any {lo p c most n cap A B D : Nat} {a : Option Addr} {s : List Int × Int} {k x : Int} {w : World} (H : PW lo w p c most a n cap s) (h0 : s.2 = 0) (I : PutIn w A B D p k x) (hx : x ≤ 9223372036854775807) :
    Calls Try.prog 47 #[.pointer (some ⟨A, 0, none⟩), .pointer (some ⟨B, 0, none⟩), .pointer (some ⟨D, 0, none⟩)] w (LayPost lo c a w (putW most s k x)) := by
  by_cases hw : IsW k
  · by_cases hn : x < 0
    · rw [putW_range h0 hw (fun h => by have := h.1; omega)]
      exact oput1_neg H I hw hn
    · obtain ⟨X, rfl⟩ := Int.eq_ofNat_of_zero_le (show 0 ≤ x by omega)
      rcases hw with rfl | rfl | rfl | rfl
      · by_cases hf : (X : Int) < 256
        · rw [putW_ok h0 (by decide) ((fits_1 _).2 ⟨by omega, hf⟩)]
          exact oput1_1 H h0 I (by omega) (div_none (by omega) hf)
        · rw [putW_range h0 (by decide) (fun h => hf ((fits_1 _).1 h).2)]
          exact oput1_big1 H I hn (div_some (by decide) (by omega))
      · by_cases hf : (X : Int) < 65536
        · rw [putW_ok h0 (by decide) ((fits_2 _).2 ⟨by omega, hf⟩)]
          exact oput1_2 H h0 I (by omega) (div_none (by omega) hf)
        · rw [putW_range h0 (by decide) (fun h => hf ((fits_2 _).1 h).2)]
          exact oput1_big2 H I hn (div_some (by decide) (by omega))
      · by_cases hf : (X : Int) < 4294967296
        · rw [putW_ok h0 (by decide) ((fits_4 _).2 ⟨by omega, hf⟩)]
          exact oput1_4 H h0 I (by omega) (div_none (by omega) hf)
        · rw [putW_range h0 (by decide) (fun h => hf ((fits_4 _).1 h).2)]
          exact oput1_big4 H I hn (div_some (by decide) (by omega))
      · rw [putW_ok h0 (by decide) ((fits_8 _ hx).2 (by omega))]
        exact oput1_8 H h0 I (by omega) (div_none (by omega) (by omega))
  · rw [putW_arg h0 hw]
    exact oput1_arg H I hw
set_option maxRecDepth 100000 in
set_option maxHeartbeats 2000000 in
theorem oput_any {lo p c most n cap : Nat} {a : Option Addr} {s : List Int × Int} {k x : Int} {w : World} (H : PW lo w p c most a n cap s) (hx : x ≤ 9223372036854775807) :
    Calls Try.prog 31 #[.pointer (some ⟨p, 0, none⟩), .int .i64 k, .int .i64 x] w (WriPost lo p c most a w (putW most s k x)) := by
  have hmf : ∀ (fn : Fn) (first cap : Array Value) (w : World), (Instr.makeFunc fn first cap).run Try.prog w = .ok (.func fn first cap) w := fun _ _ _ _ => rfl
  have hfe := run_fault_err
  have B1 := below_new w (.cells #[.pointer (some ⟨p, 0, none⟩)] 49)
  have A1 := Box.new w (.cells #[.pointer (some ⟨p, 0, none⟩)] 49)
  have B2 := below_new (w.alloc (.cells #[.pointer (some ⟨p, 0, none⟩)] 49)) (.cells #[.int .i64 k] 3)
  have D2 := Box.put (w := w.alloc (.cells #[.pointer (some ⟨p, 0, none⟩)] 49)) (k := w.heap.size + 1) (.cells #[.int .i64 k] 3) (by simp)
  have B3 := below_new ((w.alloc (.cells #[.pointer (some ⟨p, 0, none⟩)] 49)).alloc (.cells #[.int .i64 k] 3)) (.cells #[.int .i64 x] 3)
  have E3 := Box.put (w := (w.alloc (.cells #[.pointer (some ⟨p, 0, none⟩)] 49)).alloc (.cells #[.int .i64 k] 3)) (k := w.heap.size + 1 + 1) (.cells #[.int .i64 x] 3) (by simp)
  have A3 := (A1.below B2).below B3
  have D3 := D2.below B3
  have BB := B1.trans (B2.mono B1.size)
  have B := BB.trans (B3.mono BB.size)
  have H3 := H.below B
  have I3 : PutIn _ (w.heap.size + 1) w.heap.size (w.heap.size + 1 + 1) p k x := ⟨D3, A3, E3⟩
  have hno := ownone_no H3.wri
  have hst := ostep_w H3 47 #[.pointer (some ⟨w.heap.size + 1, 0, none⟩), .pointer (some ⟨w.heap.size, 0, none⟩), .pointer (some ⟨w.heap.size + 1 + 1, 0, none⟩)] enter_oWPut1 (putW most s k x) (putW_len (by rw [H.len]; exact H.le)) (fun h => putW_stays h) (fun h0 W hW => oput1_any (H3.below hW) h0 (I3.below hW) hx)
  have HB := hide B
  obtain ⟨a0, _⟩ := one_of A3
  obtain ⟨p0, _, _, _⟩ := H3.wri.two
  clear B1 A1 B2 D2 B3 E3 A3 D3 BB B H3 I3 H hx
  obtain ⟨s', hs'⟩ : ∃ s', putW most s k x = s' := ⟨_, rfl⟩
  rw [hs'] at hst ⊢
  clear hs'
  go_enter Try.func31, Try.ntmps31
  go_wp2_with fail
  refine hno.mono ?_
  rintro e w1 ⟨rfl, rfl⟩
  clear hno
  go_wp2_with fail
  refine hst.mono ?_
  rintro e w3 ⟨a', n', cap', y, rfl, H', S', W'⟩
  have HH := hide H'
  have HS := hide (Spared.ahead HB.out S')
  have HW : Hid (Went w a a') := fun k hk => (W' k hk).imp id (fun h => Nat.le_trans HB.out.size h)
  clear hst H' S' W' HB a0 p0
  go_wp2
  go_ret
  exact ⟨a', n', cap', rfl, HH.out, HS.out, HW.out⟩
set_option maxRecDepth 100000 in
set_option maxHeartbeats 1000000 in
theorem onew_yes (m : Nat) (h : m ≤ 100000) (w : World) : Calls Try.prog 30 #[.int .i64 m] w fun e w' => ∃ (p c : Nat), e = .returned (.tuple #[.pointer (some ⟨p, 0, none⟩), .int .i64 0]) ∧ PW w.heap.size w' p c m none 0 0 ([], 0) ∧ w.heap.size ≤ p ∧ w.heap.size ≤ c ∧ Below w.heap.size w w' := by
  have h0 : ¬ (m : Int) < 0 := by omega
  have h1 : ¬ 100000 < (m : Int) := by omega
  have HM := hide h
  clear h
  go_enter Try.func30, Try.ntmps30
  go_wp2
  refine bodyPost_ret (v := .tuple #[.pointer (some ⟨w.heap.size + 1, 0, none⟩), .int .i64 0]) (by simp [results, Try.f30, go_sem]) rfl ?_
  have B1 := below_new w (.cells #[.slice none 0 0, .int .i64 0, .int .i64 0, .int .i64 0] 71)
  have C1 := Box.new w (.cells #[.slice none 0 0, .int .i64 0, .int .i64 0, .int .i64 0] 71)
  have B2 := below_new (w.alloc (.cells #[.slice none 0 0, .int .i64 0, .int .i64 0, .int .i64 0] 71)) (.cells #[.pointer (some ⟨w.heap.size, 0, none⟩), .int .i64 m] 73)
  have P2 := Box.put (w := w.alloc (.cells #[.slice none 0 0, .int .i64 0, .int .i64 0, .int .i64 0] 71)) (k := w.heap.size + 1) (.cells #[.pointer (some ⟨w.heap.size, 0, none⟩), .int .i64 m] 73) (by simp)
  have B := B1.trans (B2.mono B1.size)
  exact ⟨w.heap.size + 1, rfl, w.heap.size, ⟨P2, ⟨0, C1.below B2⟩, ownb_nil _ _, Nat.zero_le _, HM.out, B.size⟩, Nat.le_succ _, Nat.le_refl _, B⟩
def BytPost (zs : List Int) (er : Int) (w : World) (e : Ending) (w' : World) : Prop := ∃ (a : Option Addr) (n c : Nat), e = .returned (.tuple #[.slice a n c, .int .i64 er]) ∧ Byt w.heap.size w' (.slice a n c) zs ∧ Below w.heap.size w w'
def tells (s : List Int × Int) : List Int := if s.2 = 0 then s.1 else []
set_option maxRecDepth 100000 in
set_option maxHeartbeats 2000000 in
theorem obytes_any {lo p c most n cap : Nat} {a : Option Addr} {s : List Int × Int} {w : World} (H : PW lo w p c most a n cap s) :
    Calls Try.prog 33 #[.pointer (some ⟨p, 0, none⟩)] w (BytPost (tells s) s.2 w) := by
  have hno := ownone_no H.wri
  obtain ⟨fa, C⟩ := H.cur
  obtain ⟨zs, er⟩ := s
  show Calls Try.prog 33 #[.pointer (some ⟨p, 0, none⟩)] w (BytPost (tells (zs, er)) er w)
  unfold tells
  obtain ⟨p0, _, _, _⟩ := H.wri.two
  obtain ⟨c0, _, c2, _, _, _, _, _⟩ := four_cells C
  dsimp only at c2
  by_cases h : er = 0
  · subst h
    have hcl := clone_any H.byt (by have := H.le; have := H.most; omega)
    rw [if_pos rfl]
    clear H C
    go_enter Try.func33, Try.ntmps33
    go_wp2_with fail
    refine hno.mono ?_
    rintro e w1 ⟨rfl, rfl⟩
    clear hno
    go_wp2_with fail
    refine hcl.mono ?_
    rintro e w2 ⟨a2, c2, rfl, S, b⟩
    have HS := hide S
    have HB := hide b
    clear hcl S b
    go_wp2
    refine bodyPost_ret (v := .tuple #[.slice a2 n c2, .int .i64 0]) (by simp [results, Try.f33, go_sem]) rfl ?_
    exact ⟨a2, n, c2, rfl, HS.out, HB.out⟩
  · rw [if_neg h]
    clear H C
    go_enter Try.func33, Try.ntmps33
    go_wp2_with fail
    refine hno.mono ?_
    rintro e w1 ⟨rfl, rfl⟩
    clear hno
    go_wp2_with fail
    go_region
    go_wp2
    refine bodyPost_ret (v := .tuple #[.slice none 0 0, .int .i64 er]) (by simp [results, Try.f33, go_sem]) rfl ?_
    exact ⟨none, 0, 0, rfl, Byt.nil _ _, (Below.refl _ w1).drew⟩
theorem byt_mid {lo g o n cap t k : Nat} {W : World} {zs : List Int} (h : Byt lo W (.slice (some ⟨g, o, none⟩) n cap) zs) (hk : t + k ≤ n) : Byt lo W (.slice (if cap = t then some ⟨g, o, none⟩ else some ⟨g, o + t, none⟩) k (cap - t)) ((zs.drop t).take k) := by
  have hn := h.len
  by_cases h0 : k = 0
  · subst h0
    rw [List.take_zero]
    exact Byt.empty _ _ _ _
  · rw [if_neg (by omega)]
    obtain ⟨b, off, e, hlo, hlt⟩ := h.row (by omega)
    simp only [Option.some.injEq, Addr.mk.injEq] at e
    obtain ⟨rfl, rfl, _⟩ := e
    refine Byt.of_cells ((h.words.drop t).take k) (by rw [List.length_take, List.length_drop]; omega) (by omega) hlo hlt (fun j hj => ?_)
    have := h.cell (j := t + j) (by omega)
    rw [List.getElem?_take_of_lt hj, List.getElem?_drop, Nat.add_assoc]
    exact this
def Rdr (W : World) (r c : Nat) : Prop := Box W r (.cells #[.pointer (some ⟨c, 0, none⟩)] 97)
def nextR (zs : List Int) (t : Nat) (k : Int) (may : Bool) : List Int × Int × Int :=
  if may = true then (if (zs.length : Int) - t < k then ([], 7, (zs.length : Int)) else ((zs.drop t).take k.toNat, 0, 0)) else ([], 2, (t : Int))
def NextSaid (lo : Nat) (x : List Int × Int × Int) (w : World) (e : Ending) (w' : World) : Prop :=
  ∃ (a' : Option Addr) (n' c' : Nat), e = .returned (.tuple #[.slice a' n' c', .agg #[.int .i64 x.2.1, .int .i64 x.2.2]]) ∧ Byt lo w' (.slice a' n' c') x.1 ∧ Below w.heap.size w w'
set_option maxRecDepth 100000 in
set_option maxHeartbeats 2000000 in
theorem onext_arg {lo r c t : Nat} {sv : Value} {k x y : Int} {w : World} (R : Rdr w r c) (C : Cur w c sv t x y) :
    Calls Try.prog 70 #[.pointer (some ⟨r, 0, none⟩), .int .i64 k, .bool false] w (NextSaid lo ([], 2, (t : Int)) w) := by
  have B1 := below_new w fz
  have hh := ohere_any (w := w.alloc fz) (Box.below C B1) 2
  obtain ⟨r0, _⟩ := one_of (R.below B1)
  have HR := hide (Box.new w fz)
  have HB := hide B1
  clear B1 R C
  unfold fz at hh r0 HR HB
  go_enter Try.func70, Try.ntmps70
  go_wp2_with fail
  refine hh.mono ?_
  rintro e w2 ⟨rfl, b2⟩
  have R2 := HR.out.below b2
  obtain ⟨k0, k1, f0, f1⟩ := R2.two
  have HR2 := hide R2
  have HB2 := hide (HB.out.trans (Below.mono b2 HB.out.size))
  clear hh R2 b2 r0 HR HB
  go_wp2
  clear k0 k1 f0 f1
  obtain ⟨g0, g1, _, _⟩ := (HR2.out.set2 (.int .i64 2) (.int .i64 (t : Nat))).two
  have HBZ := (HB2.out.setCell (p := ⟨w.heap.size, 0, none⟩) (Nat.le_refl _) (.int .i64 2)).setCell (p := ⟨w.heap.size, 1, none⟩) (Nat.le_refl _) (.int .i64 (t : Nat))
  refine bodyPost_ret (v := .tuple #[.slice none 0 0, .agg #[.int .i64 2, .int .i64 (t : Nat)]]) (by simp [results, Try.f70, go_sem, g0, g1]) rfl ?_
  exact ⟨none, 0, 0, rfl, Byt.nil _ _, HBZ⟩
set_option maxRecDepth 100000 in
set_option maxHeartbeats 2000000 in
theorem onext_short {lo r c t n cap : Nat} {a : Option Addr} {k x y : Int} {w : World} (R : Rdr w r c) (C : Cur w c (.slice a n cap) t x y) (ht : t ≤ n) (hn : n ≤ 1000000) (h : (n : Int) - t < k) :
    Calls Try.prog 70 #[.pointer (some ⟨r, 0, none⟩), .int .i64 k, .bool true] w (NextSaid lo ([], 7, (n : Int)) w) := by
  have B1 := below_new w fz
  obtain ⟨r0, _⟩ := one_of (R.below B1)
  obtain ⟨c0, c1, _, _, _, _, _, _⟩ := four_cells (Box.below C B1)
  have hw : IntKind.i64.wrap ((n : Int) - (t : Int)) = (n : Int) - (t : Int) := by rw [IntKind.wrap_i64]; omega
  clear B1 R C
  unfold fz at r0 c0 c1
  go_enter Try.func70, Try.ntmps70
  go_wp2_with fail
  go_region
  go_wp2_with fail
  go_region
  all_goals
    go_wp2
    refine bodyPost_ret (v := .tuple #[.slice none 0 0, .agg #[.int .i64 7, .int .i64 (n : Nat)]]) (by simp [results, Try.f70, go_sem]) rfl ?_
    exact ⟨none, 0, 0, rfl, Byt.nil _ _, (((Below.refl _ w).drew.drew).alloc (Nat.le_refl _) _)⟩
set_option maxRecDepth 100000 in
set_option maxHeartbeats 2000000 in
theorem onext_some {lo r c t n cap k g o : Nat} {x y : Int} {zs : List Int} {w : World} (R : Rdr w r c) (C : Cur w c (.slice (some ⟨g, o, none⟩) n cap) t x y) (X : Byt lo w (.slice (some ⟨g, o, none⟩) n cap) zs) (hn : n ≤ 1000000) (h : t + k ≤ n) :
    Calls Try.prog 70 #[.pointer (some ⟨r, 0, none⟩), .int .i64 k, .bool true] w (NextSaid lo ((zs.drop t).take k, 0, 0) w) := by
  have B1 := below_new w fz
  obtain ⟨r0, _⟩ := one_of (R.below B1)
  obtain ⟨c0, c1, _, _, _, _, _, _⟩ := four_cells (Box.below C B1)
  have hnc := X.len.2
  have hw : IntKind.i64.wrap ((n : Int) - (t : Int)) = (n : Int) - (t : Int) := by rw [IntKind.wrap_i64]; omega
  have hl : ¬ ((n : Int) - (t : Int) < (k : Int)) := by omega
  have hw2 : IntKind.i64.wrap ((t : Int) + (k : Int)) = (t : Int) + (k : Int) := by rw [IntKind.wrap_i64]; omega
  have HM := hide (byt_mid X h)
  have hk : t + k - t = k := by omega
  have HK := hide hk
  clear B1 R C X h hk
  unfold fz at r0 c0 c1
  go_enter Try.func70, Try.ntmps70
  go_wp2_with fail
  go_region
  go_wp2_with fail
  go_region
  all_goals
    rw [HK.out]
    obtain ⟨A, hA⟩ : ∃ A, (if cap = t then some (⟨g, o, none⟩ : Addr) else some ⟨g, o + t, none⟩) = A := ⟨_, rfl⟩
    have hm := HM.out
    rw [hA] at hm ⊢
    have HM2 := hide hm
    clear hm hA
    go_wp2
    refine bodyPost_ret (v := .tuple #[.slice A k (cap - t), .agg #[.int .i64 0, .int .i64 0]]) (by simp [results, Try.f70, go_sem]) rfl ?_
    exact ⟨A, k, cap - t, rfl, HM2.out.below (show Below w.heap.size w _ from ((Below.refl _ w).alloc (Nat.le_refl _) _).drew.drew), (((Below.refl _ w).drew.drew).alloc (Nat.le_refl _) _)⟩
set_option maxRecDepth 100000 in
set_option maxHeartbeats 2000000 in
theorem onext_null {lo r c cap : Nat} {p : Addr} {x y : Int} {w : World} (R : Rdr w r c) (C : Cur w c (.slice (some p) 0 cap) 0 x y) :
    Calls Try.prog 70 #[.pointer (some ⟨r, 0, none⟩), .int .i64 0, .bool true] w (NextSaid lo ([], 0, 0) w) := by
  have B1 := below_new w fz
  obtain ⟨r0, _⟩ := one_of (R.below B1)
  obtain ⟨c0, c1, _, _, _, _, _, _⟩ := four_cells (Box.below C B1)
  clear B1 R C
  unfold fz at r0 c0 c1
  go_enter Try.func70, Try.ntmps70
  go_wp2_with fail
  go_region
  go_wp2_with fail
  go_region
  all_goals
    go_wp2
    refine bodyPost_ret (v := .tuple #[.slice (some p) 0 cap, .agg #[.int .i64 0, .int .i64 0]]) (by simp [results, Try.f70, go_sem]) rfl ?_
    exact ⟨some p, 0, cap, rfl, Byt.empty _ _ _ _, (((Below.refl _ w).drew.drew).alloc (Nat.le_refl _) _)⟩
set_option maxRecDepth 100000 in
set_option maxHeartbeats 2000000 in
theorem onext_none {lo r c cap : Nat} {x y : Int} {w : World} (R : Rdr w r c) (C : Cur w c (.slice none 0 cap) 0 x y) :
    Calls Try.prog 70 #[.pointer (some ⟨r, 0, none⟩), .int .i64 0, .bool true] w (NextSaid lo ([], 0, 0) w) := by
  have B1 := below_new w fz
  obtain ⟨r0, _⟩ := one_of (R.below B1)
  obtain ⟨c0, c1, _, _, _, _, _, _⟩ := four_cells (Box.below C B1)
  clear B1 R C
  unfold fz at r0 c0 c1
  go_enter Try.func70, Try.ntmps70
  go_wp2_with fail
  go_region
  go_wp2_with fail
  go_region
  all_goals
    go_wp2
    refine bodyPost_ret (v := .tuple #[.slice none 0 cap, .agg #[.int .i64 0, .int .i64 0]]) (by simp [results, Try.f70, go_sem]) rfl ?_
    exact ⟨none, 0, cap, rfl, Byt.empty _ _ _ _, (((Below.refl _ w).drew.drew).alloc (Nat.le_refl _) _)⟩
theorem onext_any {lo r c t n cap : Nat} {a : Option Addr} {k x y : Int} {zs : List Int} {w : World} (R : Rdr w r c) (C : Cur w c (.slice a n cap) t x y) (X : Byt lo w (.slice a n cap) zs) (ht : t ≤ n) (hn : n ≤ 1000000) (may : Bool) (hk : may = true → 0 ≤ k) :
    Calls Try.prog 70 #[.pointer (some ⟨r, 0, none⟩), .int .i64 k, .bool may] w (NextSaid lo (nextR zs t k may) w) := by
  have hz := X.len.1
  cases may with
  | false => exact onext_arg R C
  | true =>
    unfold nextR
    rw [if_pos rfl]
    by_cases h : (n : Int) - t < k
    · rw [if_pos (by omega), ← hz]
      exact onext_short R C ht hn h
    · rw [if_neg (by omega)]
      obtain ⟨K, rfl⟩ := Int.eq_ofNat_of_zero_le (hk rfl)
      show Calls Try.prog 70 #[.pointer (some ⟨r, 0, none⟩), .int .i64 (K : Nat), .bool true] w (NextSaid lo ((zs.drop t).take K, 0, 0) w)
      by_cases h0 : n = 0
      · subst h0
        obtain rfl : zs = [] := List.length_eq_zero_iff.1 hz.symm
        obtain rfl : t = 0 := by omega
        obtain rfl : K = 0 := by omega
        cases a with
        | none => exact onext_none R C
        | some p => exact onext_null R C
      · obtain ⟨g, o, rfl, _, _⟩ := X.row (by omega)
        exact onext_some R C X hn (by omega)
theorem Byt.off {lo : Nat} {W : World} {a : Option Addr} {n cap k : Nat} {zs : List Int} {cs : Array Value} {t : TypeId} (h : Byt lo W (.slice a n cap) zs) (hk : Box W k (.cells cs t (0, 0))) (hs : ∀ (i : Nat) (x : Int), cs[i]? ≠ some (.int .u8 x)) (hz : zs ≠ []) : ∀ g o, a = some ⟨g, o, none⟩ → g ≠ k := by
  rintro g o rfl rfl
  have hl := h.len.1
  have hc := (h.cell (j := 0) (by rw [hl]; exact List.length_pos_iff.2 hz)).1
  rw [cell_of_heap hk.what (o + 0)] at hc
  exact hs _ _ hc
theorem Byt.keep {F : Nat → Prop} {lo : Nat} {A B : World} {a : Option Addr} {n cap : Nat} {zs : List Int} (h : Byt lo A (.slice a n cap) zs) (hs : Spared F A B) (hF : zs ≠ [] → ∀ g o, a = some ⟨g, o, none⟩ → ¬ F g) : Byt lo B (.slice a n cap) zs := by
  obtain ⟨hw, a', cap', e, h1, h3⟩ := h
  simp only [Value.slice.injEq] at e
  obtain ⟨rfl, rfl, rfl⟩ := e
  refine ⟨hw, _, _, rfl, h1, fun hz => ?_⟩
  obtain ⟨b, off, e1, e2, e3, e4, e5⟩ := h3 hz
  have hb := hs.same b e3 (hF hz b off e1)
  exact ⟨b, off, e1, e2, Nat.lt_of_lt_of_le e3 hs.size, fun j hj => (World.cell?_of_block (a := ⟨b, off + j, none⟩) hb).trans (e4 j hj), fun j hj => (World.frozen?_of_block (a := ⟨b, off + j, none⟩) hb).trans (e5 j hj)⟩
theorem cur_noOct (sv : Value) (hs : ∀ k x, sv ≠ .int k x) (a e f : Int) : ∀ (i : Nat) (x : Int), (#[sv, .int .i64 a, .int .i64 e, .int .i64 f] : Array Value)[i]? ≠ some (.int .u8 x) := fun i x h => by
  match i with
  | 0 => simp at h; exact hs _ _ h
  | 1 => simp at h
  | 2 => simp at h
  | 3 => simp at h
  | i + 4 => simp at h
structure PR (lo : Nat) (W : World) (r c : Nat) (a : Option Addr) (n cap : Nat) (zs : List Int) (s : RS) : Prop where
  rdr : Rdr W r c
  cur : Cur W c (.slice a n cap) s.at_ s.er s.fa
  byt : Byt lo W (.slice a n cap) zs
  ok : s.Ok zs
  small : n ≤ 100000
theorem PR.ne {lo r c n cap : Nat} {a : Option Addr} {zs : List Int} {s : RS} {W : World} (h : PR lo W r c a n cap zs s) : r ≠ c := Box.apart h.rdr h.cur (by decide)
theorem PR.below {lo r c n cap : Nat} {a : Option Addr} {zs : List Int} {s : RS} {A B : World} (h : PR lo A r c a n cap zs s) (hb : Below A.heap.size A B) : PR lo B r c a n cap zs s :=
  ⟨Box.below h.rdr hb, Box.below h.cur hb, h.byt.below hb, h.ok, h.small⟩
theorem PR.off {lo r c n cap : Nat} {a : Option Addr} {zs : List Int} {s : RS} {A : World} (h : PR lo A r c a n cap zs s) (hz : zs ≠ []) : ∀ g o, a = some ⟨g, o, none⟩ → g ≠ c := h.byt.off h.cur (cur_noOct _ (fun _ _ e => by cases e) _ _ _) hz
theorem rawR_next {zs : List Int} {s : RS} (h : s.Ok zs) (h0 : s.er = 0) (k : Int) : rawR zs s k = ((nextR zs s.at_ k (decide (0 ≤ k))).1, ⟨s.at_ + (nextR zs s.at_ k (decide (0 ≤ k))).1.length, (nextR zs s.at_ k (decide (0 ≤ k))).2.1, (nextR zs s.at_ k (decide (0 ≤ k))).2.2⟩) := by
  unfold rawR nextR
  rw [if_pos h0]
  by_cases hk : k < 0
  · have hd : decide (0 ≤ k) = false := decide_eq_false (by omega)
    rw [if_pos hk, hd]
    rfl
  · have hd : decide (0 ≤ k) = true := decide_eq_true (by omega)
    rw [if_neg hk, hd, if_pos rfl]
    by_cases hl : (zs.length : Int) - s.at_ < k
    · rw [if_pos hl, if_pos hl]
      rfl
    · rw [if_neg hl, if_neg hl]
      have h1 := h.1
      have : ((zs.drop s.at_).take k.toNat).length = k.toNat := by rw [List.length_take, List.length_drop]; omega
      rw [this]
theorem nextR_len (zs : List Int) (t : Nat) (k : Int) (m : Bool) : (nextR zs t k m).1.length ≤ zs.length := by
  unfold nextR
  split
  · split
    · exact Nat.zero_le _
    · show ((zs.drop t).take k.toNat).length ≤ zs.length
      rw [List.length_take, List.length_drop]
      omega
  · exact Nat.zero_le _
theorem enter_oRRaw1 (args : Array Value) (w : World) : (callFunc 72 args).run Try.prog w = .ok (.enter 72 args) w := by kernel_rfl
theorem enter_oRGet1 (args : Array Value) (w : World) : (callFunc 69 args).run Try.prog w = .ok (.enter 69 args) w := by kernel_rfl
set_option maxRecDepth 100000 in
set_option maxHeartbeats 1000000 in
theorem ornone_no {r c : Nat} {w : World} (R : Rdr w r c) : Calls Try.prog 68 #[.pointer (some ⟨r, 0, none⟩)] w fun e w' => e = .returned (.bool false) ∧ w' = w := by
  obtain ⟨h, _⟩ := one_of R
  go_enter Try.func68, Try.ntmps68
  go_wp2
  go_ret
  exact ⟨rfl, rfl⟩
def RawOn (c N B : Nat) (a : Option Addr) (n cap : Nat) (x : List Int × RS) (W : World) (e : Ending) (w2 : World) : Prop :=
  ∃ (er' fa' : Int) (b : Option Addr) (m d : Nat), e = .returned (.agg #[.int .i64 x.2.er, .int .i64 x.2.fa]) ∧ Cur w2 c (.slice a n cap) x.2.at_ er' fa' ∧ Spared (fun k => k = c ∨ k = N) W w2 ∧ Box w2 N (.cells #[.slice b m d] 22) ∧ Byt B w2 (.slice b m d) x.1
set_option maxRecDepth 100000 in
set_option maxHeartbeats 4000000 in
theorem orraw1_any {lo r c n cap A D N : Nat} {a : Option Addr} {zs : List Int} {s : RS} {k : Int} {v : Value} {w : World} (H : PR lo w r c a n cap zs s) (h0 : s.er = 0) (hA : Box w A (.cells #[.pointer (some ⟨r, 0, none⟩)] 86)) (hD : Box w D (.cells #[.int .i64 k] 3)) (hN : Box w N (.cells #[v] 22)) :
    Calls Try.prog 72 #[.pointer (some ⟨A, 0, none⟩), .pointer (some ⟨D, 0, none⟩), .pointer (some ⟨N, 0, none⟩)] w (RawOn c N w.heap.size a n cap (rawR zs s k) w) := by
  have B1 := below_new w fz
  rw [rawR_next H.ok h0]
  have hx := onext_any (Box.below H.rdr B1) (Box.below H.cur B1) (H.byt.below B1) (by rw [H.byt.len.1]; exact H.ok.1) (Nat.le_trans H.small (by decide)) (decide (0 ≤ k)) (k := k) (fun h => by simpa using h)
  have hxl := nextR_len zs s.at_ k (decide (0 ≤ k))
  obtain ⟨X, hX⟩ : ∃ X, nextR zs s.at_ k (decide (0 ≤ k)) = X := ⟨_, rfl⟩
  rw [hX] at hx hxl ⊢
  have HX := hide hxl
  obtain ⟨a0, _⟩ := one_of (hA.below B1)
  obtain ⟨d0, _⟩ := one_of (hD.below B1)
  have HH := hide H
  have HA := hide (hA.below B1)
  have HD := hide (hD.below B1)
  have HN := hide (hN.below B1)
  have HNl := hide hN.lt
  have HCl := hide H.cur.lt
  have HB := hide B1
  have HR := hide (Box.new w fz)
  clear B1 H h0 hA hD hN hX hxl
  unfold fz at hx a0 d0
  go_enter Try.func72, Try.ntmps72
  go_wp2_with fail
  refine hx.mono ?_
  rintro e w2 ⟨b, m, d, rfl, S, b2⟩
  have b3 := below_new w2 (.cells #[.int .i64 X.2.1, .int .i64 X.2.2] 62)
  have BB := Below.trans b2 (b3.mono b2.size)
  have F3 := Box.new w2 (.cells #[.int .i64 X.2.1, .int .i64 X.2.2] 62)
  have hw2 : w.heap.size < w2.heap.size := Nat.lt_of_lt_of_le HR.out.lt b2.size
  obtain ⟨F, hF⟩ : ∃ F, w2.heap.size = F := ⟨_, rfl⟩
  have hcl := clone_any (S.below b3) (by have := S.len.1; have := HX.out; have := HH.out.small; have := HH.out.byt.len.1; omega)
  have HM := hide S.len.1
  rw [hF] at F3 hw2
  have HF := hide hF
  clear hx a0 d0
  go_wp2_with fail
  refine hcl.mono ?_
  rintro e w4 ⟨b', d', rfl, S4, b4⟩
  have B4 := HB.out.trans (Below.mono (Below.trans BB (b4.mono BB.size)) HB.out.size)
  have B24 : Below (w.alloc fz).heap.size (w.alloc fz) w4 := Below.trans BB (b4.mono BB.size)
  have A4 := HA.out.below B24
  have N4 := HN.out.below B24
  have R4 := HR.out.below B24
  have F4 := F3.below b4
  have H4 := HH.out.below B4
  have hcN : ¬ c = N := fun e => Box.apart H4.cur N4 (by decide) e
  have hAN : ¬ A = N := fun e => Box.apart A4 N4 (by decide) e
  have hrN : ¬ r = N := fun e => Box.apart H4.rdr N4 (by decide) e
  have hFN : ¬ F = N := fun e => Box.apart F4 N4 (by decide) e
  have hFc : ¬ F = c := fun e => Box.apart F4 H4.cur (by decide) e
  have hRN : ¬ w.heap.size = N := fun e => Box.apart R4 N4 (by decide) e
  have hRc : ¬ w.heap.size = c := fun e => Box.apart R4 H4.cur (by decide) e
  have hwr : IntKind.i64.wrap ((s.at_ : Int) + (m : Int)) = (s.at_ : Int) + (m : Int) := by
    have := HX.out; have := HM.out; have := HH.out.small; have := HH.out.byt.len.1; have := HH.out.ok.1
    rw [IntKind.wrap_i64]; omega
  obtain ⟨a0, _⟩ := one_of A4
  obtain ⟨n0, m0⟩ := one_of N4
  obtain ⟨r0, _⟩ := one_of H4.rdr
  obtain ⟨_, c1, _, _, _, f1, _, _⟩ := four_cells H4.cur
  obtain ⟨k0, k1, _, _⟩ := F4.two
  obtain ⟨q0, q1, p0, p1⟩ := R4.two
  have HH4 := hide H4
  have HN4 := hide N4
  have HR4 := hide R4
  have HB4 := hide B4
  have HS4 := hide S4
  have hz3 : (w2.alloc (.cells #[.int .i64 X.2.1, .int .i64 X.2.2] 62)).heap.size = F + 1 := by rw [World.size_alloc, HF.out]
  have HZ := hide hz3
  clear hcl S S4 b4 B4 B24 A4 N4 R4 F4 H4 b2 b3 BB F3 HA HD HN HB hz3 hF
  go_wp2
  clear a0 n0 m0 r0 c1 f1 k0 k1 q0 q1 p0 p1
  have hcl := HH4.out.cur.lt
  have hNl := HN4.out.lt
  have hRl := HR4.out.lt
  have hNc : ¬ N = c := fun e => hcN e.symm
  have hNR : ¬ N = w.heap.size := fun e => hRN e.symm
  have hcR : ¬ c = w.heap.size := fun e => hRc e.symm
  have e1 : ((s.at_ + X.1.length : Nat) : Int) = (s.at_ : Int) + (m : Int) := by have := HM.out; omega
  have C7 := Box.aside (Box.aside (Box.put1 (Box.aside HH4.out.cur (g := N) 0 (.slice b' m d') hcN) 1 (.int .i64 ((s.at_ : Int) + (m : Int)))) (g := w.heap.size) 0 (.int .i64 X.2.1) hcR) (g := w.heap.size) 1 (.int .i64 X.2.2) hcR
  have N7 := Box.aside (Box.aside (Box.aside (Box.put1 HN4.out 0 (.slice b' m d')) (g := c) 1 (.int .i64 ((s.at_ : Int) + (m : Int))) hNc) (g := w.heap.size) 0 (.int .i64 X.2.1) hNR) (g := w.heap.size) 1 (.int .i64 X.2.2) hNR
  have R7 := (Box.aside (Box.aside HR4.out (g := N) 0 (.slice b' m d') hRN) (g := c) 1 (.int .i64 ((s.at_ : Int) + (m : Int))) hRc).set2 (.int .i64 X.2.1) (.int .i64 X.2.2)
  have S7 : Spared (fun k => k = c ∨ k = N ∨ k = w.heap.size) w4 ((((w4.setCell ⟨N, 0, none⟩ (.slice b' m d')).setCell ⟨c, 1, none⟩ (.int .i64 ((s.at_ : Int) + (m : Int)))).setCell ⟨w.heap.size, 0, none⟩ (.int .i64 X.2.1)).setCell ⟨w.heap.size, 1, none⟩ (.int .i64 X.2.2)) := ((((Spared.refl (fun k => k = c ∨ k = N ∨ k = w.heap.size) w4).setCell (k := N) (.inr (.inl rfl)) 0 _).setCell (k := c) (.inl rfl) 1 _).setCell (k := w.heap.size) (.inr (.inr rfl)) 0 _).setCell (k := w.heap.size) (.inr (.inr rfl)) 1 _
  obtain ⟨W7, hW7⟩ : ∃ W7, (((w4.setCell ⟨N, 0, none⟩ (.slice b' m d')).setCell ⟨c, 1, none⟩ (.int .i64 ((s.at_ : Int) + (m : Int)))).setCell ⟨w.heap.size, 0, none⟩ (.int .i64 X.2.1)).setCell ⟨w.heap.size, 1, none⟩ (.int .i64 X.2.2) = W7 := ⟨_, rfl⟩
  rw [hW7] at C7 N7 R7 S7 ⊢
  clear hW7
  obtain ⟨g0, g1, _, _⟩ := R7.two
  refine bodyPost_ret (v := .agg #[.int .i64 X.2.1, .int .i64 X.2.2]) (by simp [results, Try.f72, go_sem, g0, g1]) rfl ?_
  refine ⟨s.er, s.fa, b', m, d', rfl, ?_, ?_, N7, ?_⟩
  · show Cur W7 c (.slice a n cap) ((s.at_ + X.1.length : Nat) : Int) s.er s.fa
    rw [e1]
    exact C7
  · exact (Spared.of_below _ HB4.out).next S7 (fun i hi h => by
      rcases h with h | h | h
      · exact .inl h
      · exact .inr h
      · omega)
  · refine (HS4.out.keep S7 (fun hz g o e h => ?_)).mono (by rw [HZ.out]; omega)
    subst e
    obtain ⟨g', o', e, h1, h2⟩ := HS4.out.row (by rw [HS4.out.len.1]; exact List.length_pos_iff.2 hz)
    simp only [Option.some.injEq, Addr.mk.injEq] at e
    have := HZ.out
    have := HNl.out
    have := HCl.out
    omega
theorem one_noOct (v : Value) (hs : ∀ x, v ≠ .int .u8 x) : ∀ (i : Nat) (x : Int), (#[v] : Array Value)[i]? ≠ some (.int .u8 x) := fun i x h => by
  match i with
  | 0 => simp at h; exact hs _ h
  | i + 1 => simp at h
theorem PR.on {lo r c n cap N : Nat} {a : Option Addr} {zs : List Int} {s s' : RS} {v : Value} {t : TypeId} {w w3 : World} (H : PR lo w r c a n cap zs s) (hN : Box w N (.cells #[v] t (0, 0))) (ht : t ≠ 97) (hv : ∀ x, v ≠ .int .u8 x) (hs : s'.Ok zs) (C : Cur w3 c (.slice a n cap) s'.at_ s'.er s'.fa) (S : Spared (fun k => k = c ∨ k = N) w w3) : PR lo w3 r c a n cap zs s' := by
  refine ⟨Box.spared H.rdr S (fun h => h.elim (fun h => H.ne h) (fun h => Box.apart hN H.rdr ht h.symm)), C, H.byt.keep S (fun hz g o e h => ?_), hs, H.small⟩
  rcases h with h | h
  · exact H.off hz g o e h
  · exact H.byt.off hN (one_noOct v hv) hz g o e h
theorem ostep_raw {lo r c n cap A D N : Nat} {a : Option Addr} {zs : List Int} {s : RS} {k : Int} {w : World} (H : PR lo w r c a n cap zs s) (hA : Box w A (.cells #[.pointer (some ⟨r, 0, none⟩)] 86)) (hD : Box w D (.cells #[.int .i64 k] 3)) (hN : Box w N (.cells #[.slice none 0 0] 22)) :
    Calls Try.prog 46 #[.pointer (some ⟨c, 0, none⟩), .func (.func 72) #[] #[.pointer (some ⟨A, 0, none⟩), .pointer (some ⟨D, 0, none⟩), .pointer (some ⟨N, 0, none⟩)]] w fun e w3 => ∃ (x y : Int) (b : Option Addr) (m d : Nat), e = .returned (.agg #[.int .i64 x, .int .i64 y]) ∧ PR lo w3 r c a n cap zs (rawR zs s k).2 ∧ Box w3 N (.cells #[.slice b m d] 22) ∧ Byt w.heap.size w3 (.slice b m d) (rawR zs s k).1 ∧ Spared (fun k => k = c ∨ k = N) w w3 := by
  have hcN : ¬ c = N := fun e => Box.apart H.cur hN (by decide) e
  have hNl := hN.lt
  have hcl := H.cur.lt
  by_cases h0 : s.er = 0
  · have C := H.cur
    rw [h0] at C
    refine (ostep_on C 72 _ enter_oRRaw1 (fun i => i = N) (fun i h => by omega) (fun x y sv' a' w2 => x = (rawR zs s k).2.er ∧ y = (rawR zs s k).2.fa ∧ sv' = .slice a n cap ∧ a' = (rawR zs s k).2.at_ ∧ ∃ (b : Option Addr) (m d : Nat), Box w2 N (.cells #[.slice b m d] 22) ∧ Byt (w.heap.size + 2) w2 (.slice b m d) (rawR zs s k).1) (fun W hW hsz => (orraw1_any (H.below hW) h0 (hA.below hW) (hD.below hW) (hN.below hW)).mono ?_)).mono ?_
    · rintro e w2 ⟨er', fa', b, m, d, rfl, C2, S2, N2, Y2⟩
      rw [hsz] at Y2
      exact ⟨_, _, _, _, er', fa', rfl, C2, S2, rfl, rfl, rfl, rfl, b, m, d, N2, Y2⟩
    · rintro e w3 ⟨x, y, sv', a', w2, rfl, ⟨rfl, rfl, rfl, rfl, b, m, d, N2, Y2⟩, C3, S3, S23⟩
      refine ⟨_, _, b, m, d, rfl, H.on hN (by decide) (fun _ e => by cases e) (H.ok.raw k) C3 S3, N2.spared S23 (fun h => by omega), (Y2.keep S23 (fun hz g o e h => ?_)).mono (by omega), S3⟩
      subst e
      obtain ⟨g', o', e, h1, h2⟩ := Y2.row (by rw [Y2.len.1]; exact List.length_pos_iff.2 hz)
      simp only [Option.some.injEq, Addr.mk.injEq] at e
      omega
  · have hr : rawR zs s k = ([], s) := if_neg h0
    rw [hr]
    refine (ostep_stays H.cur h0 72 _).mono ?_
    rintro e w' ⟨rfl, C', S'⟩
    have S2 : Spared (fun k => k = c ∨ k = N) w w' := S'.mono (fun _ _ h => .inl h)
    exact ⟨_, _, none, 0, 0, rfl, H.on hN (by decide) (fun _ e => by cases e) H.ok C' S2, hN.spared S' (fun h => hcN h.symm), Byt.nil _ _, S2⟩
set_option maxRecDepth 100000 in
set_option maxHeartbeats 4000000 in
theorem orraw_any {lo r c n cap : Nat} {a : Option Addr} {zs : List Int} {s : RS} {k : Int} {w : World} (H : PR lo w r c a n cap zs s) :
    Calls Try.prog 61 #[.pointer (some ⟨r, 0, none⟩), .int .i64 k] w fun e w' => ∃ (b : Option Addr) (m d : Nat), e = .returned (.slice b m d) ∧ Byt w.heap.size w' (.slice b m d) (rawR zs s k).1 ∧ PR lo w' r c a n cap zs (rawR zs s k).2 ∧ Spared (fun k => k = c) w w' := by
  have hmf : ∀ (fn : Fn) (first cap : Array Value) (w : World), (Instr.makeFunc fn first cap).run Try.prog w = .ok (.func fn first cap) w := fun _ _ _ _ => rfl
  have B1 := below_new w (.cells #[.pointer (some ⟨r, 0, none⟩)] 86)
  have A1 := Box.new w (.cells #[.pointer (some ⟨r, 0, none⟩)] 86)
  have B2 := below_new (w.alloc (.cells #[.pointer (some ⟨r, 0, none⟩)] 86)) (.cells #[.int .i64 k] 3)
  have D2 := Box.put (w := w.alloc (.cells #[.pointer (some ⟨r, 0, none⟩)] 86)) (k := w.heap.size + 1) (.cells #[.int .i64 k] 3) (by simp)
  have A2 := A1.below B2
  have BB := B1.trans (B2.mono B1.size)
  have B3 := below_new ((w.alloc (.cells #[.pointer (some ⟨r, 0, none⟩)] 86)).alloc (.cells #[.int .i64 k] 3)) (.cells #[.slice none 0 0] 22)
  have N3 := Box.put (w := (w.alloc (.cells #[.pointer (some ⟨r, 0, none⟩)] 86)).alloc (.cells #[.int .i64 k] 3)) (k := w.heap.size + 1 + 1) (.cells #[.slice none 0 0] 22) (by simp)
  have B := BB.trans (B3.mono BB.size)
  have hno := ornone_no (Box.below H.rdr BB)
  have hst := ostep_raw (H.below B) (A2.below B3) (D2.below B3) N3
  obtain ⟨a0, _⟩ := one_of A2
  obtain ⟨a1, _⟩ := one_of (A2.below B3)
  obtain ⟨r1, _⟩ := one_of (Box.below H.rdr B)
  have HB := hide B
  have hcl := H.cur.lt
  clear B1 A1 B2 D2 A2 BB B3 N3 B H
  obtain ⟨x, hx⟩ : ∃ x, rawR zs s k = x := ⟨_, rfl⟩
  rw [hx] at hst ⊢
  clear hx
  go_enter Try.func61, Try.ntmps61
  go_wp2_with fail
  refine hno.mono ?_
  rintro e w1 ⟨rfl, rfl⟩
  clear hno
  go_wp2_with fail
  refine hst.mono ?_
  rintro e w3 ⟨X, Y, b, m, d, rfl, H3, N3, Y3, S3⟩
  obtain ⟨n0, _⟩ := one_of N3
  have HH := hide H3
  have HY := hide (Y3.mono HB.out.size)
  have HS : Hid (Spared (fun k => k = c) w w3) := (Spared.of_below _ HB.out).next S3 (fun i hi h => h.elim id (fun h => by omega))
  clear hst H3 N3 Y3 S3 HB a0 a1 r1
  go_wp2
  go_ret
  exact ⟨b, m, d, rfl, HY.out, HH.out, HS.out⟩
set_option maxRecDepth 100000 in
set_option maxHeartbeats 1000000 in
theorem onewr_any {lo : Nat} {a : Option Addr} {n cap : Nat} {zs : List Int} {w : World} (X : Byt lo w (.slice a n cap) zs) (hn : n ≤ 100000) :
    Calls Try.prog 58 #[.slice a n cap] w fun e w' => ∃ (r c : Nat) (b : Option Addr) (d : Nat), e = .returned (.pointer (some ⟨r, 0, none⟩)) ∧ PR w.heap.size w' r c b n d zs ⟨0, 0, 0⟩ ∧ w.heap.size ≤ r ∧ w.heap.size ≤ c ∧ Below w.heap.size w w' := by
  have hcl := clone_any X (by omega)
  have HN := hide hn
  clear X hn
  go_enter Try.func58, Try.ntmps58
  go_wp2_with fail
  refine hcl.mono ?_
  rintro e w2 ⟨b, d, rfl, S, b2⟩
  have B1 := below_new w2 (.cells #[.slice b n d, .int .i64 0, .int .i64 0, .int .i64 0] 71)
  have C1 := Box.new w2 (.cells #[.slice b n d, .int .i64 0, .int .i64 0, .int .i64 0] 71)
  have B2 := below_new (w2.alloc (.cells #[.slice b n d, .int .i64 0, .int .i64 0, .int .i64 0] 71)) (.cells #[.pointer (some ⟨w2.heap.size, 0, none⟩)] 97)
  have P2 := Box.put (w := w2.alloc (.cells #[.slice b n d, .int .i64 0, .int .i64 0, .int .i64 0] 71)) (k := w2.heap.size + 1) (.cells #[.pointer (some ⟨w2.heap.size, 0, none⟩)] 97) (by simp)
  have BB := B1.trans (B2.mono B1.size)
  have HB := hide (b2.trans (BB.mono b2.size))
  have HP : Hid (PR w.heap.size ((w2.alloc (.cells #[.slice b n d, .int .i64 0, .int .i64 0, .int .i64 0] 71)).alloc (.cells #[.pointer (some ⟨w2.heap.size, 0, none⟩)] 97)) (w2.heap.size + 1) w2.heap.size b n d zs ⟨0, 0, 0⟩) := ⟨P2, C1.below B2, S.below BB, RS.Ok.start zs, HN.out⟩
  have HZ := hide b2.size
  clear hcl S b2 B1 C1 B2 P2 BB
  go_wp2
  go_ret
  exact ⟨w2.heap.size + 1, w2.heap.size, b, d, rfl, HP.out, Nat.le_succ_of_le HZ.out, HZ.out, HB.out⟩
set_option maxRecDepth 100000 in
set_option maxHeartbeats 1000000 in
theorem orest_any {lo r c n cap : Nat} {a : Option Addr} {zs : List Int} {s : RS} {w : World} (H : PR lo w r c a n cap zs s) :
    Calls Try.prog 62 #[.pointer (some ⟨r, 0, none⟩)] w fun e w' => e = .returned (.int .i64 (restR zs s)) ∧ Below w.heap.size w w' := by
  have hno := ornone_no H.rdr
  obtain ⟨r0, _⟩ := one_of H.rdr
  obtain ⟨c0, c1, c2, _, _, _, _, _⟩ := four_cells H.cur
  have hz := H.byt.len.1
  have hle := H.ok.1
  have hsm := H.small
  unfold restR
  obtain ⟨t, er, fa⟩ := s
  dsimp only at c1 c2 hle ⊢
  rw [← hz] at hle ⊢
  by_cases h : er = 0
  · subst h
    rw [if_pos rfl]
    have hw : IntKind.i64.wrap ((n : Int) - (t : Int)) = (n : Int) - (t : Int) := by rw [IntKind.wrap_i64]; omega
    clear H hz hle hsm
    go_enter Try.func62, Try.ntmps62
    go_wp2_with fail
    refine hno.mono ?_
    rintro e w1 ⟨rfl, rfl⟩
    clear hno
    go_wp2_with fail
    go_region
    go_wp2
    go_ret
    exact ⟨rfl, (Below.refl _ w1).drew⟩
  · rw [if_neg h]
    clear H hz hle hsm
    go_enter Try.func62, Try.ntmps62
    go_wp2_with fail
    refine hno.mono ?_
    rintro e w1 ⟨rfl, rfl⟩
    clear hno
    go_wp2
    go_ret
    exact ⟨rfl, Below.refl _ _⟩
set_option maxRecDepth 100000 in
set_option maxHeartbeats 2000000 in
theorem oend_any {lo r c n cap : Nat} {a : Option Addr} {zs : List Int} {s : RS} {w : World} (H : PR lo w r c a n cap zs s) :
    Calls Try.prog 63 #[.pointer (some ⟨r, 0, none⟩)] w fun e w' => e = .returned (.agg #[.int .i64 (endR zs s).1, .int .i64 (endR zs s).2]) ∧ Below w.heap.size w w' := by
  have B1 := below_new w fz
  have H1 := H.below B1
  have hno := ornone_no H1.rdr
  have hre := orest_any H1
  have HR := hide (Box.new w fz)
  have HB := hide B1
  have HH := hide H1
  have hz := H.byt.len.1
  have hle := H.ok.1
  obtain ⟨r0, _⟩ := one_of H1.rdr
  obtain ⟨c0, c1, c2, c3, _, _, _, _⟩ := four_cells H1.cur
  clear H H1 B1
  unfold fz at hno hre r0 c0 c1 c2 c3
  by_cases h : s.er = 0 ∧ s.at_ < zs.length
  · have he : endR zs s = (4, (s.at_ : Int)) := if_pos h
    have hq : 0 < restR zs s := by unfold restR; rw [if_pos h.1]; omega
    rw [he]
    obtain ⟨R, hR⟩ : ∃ R, restR zs s = R := ⟨_, rfl⟩
    rw [hR] at hre hq
    clear hR he hz hle h
    go_enter Try.func63, Try.ntmps63
    go_wp2_with fail
    refine hno.mono ?_
    rintro e w1 ⟨rfl, rfl⟩
    clear hno
    go_wp2_with fail
    refine hre.mono ?_
    rintro e w2 ⟨rfl, b2⟩
    have H2 := HH.out.below b2
    have R2 := HR.out.below b2
    have HB2 := hide (HB.out.trans (Below.mono b2 HB.out.size))
    obtain ⟨q0, _⟩ := one_of H2.rdr
    have hh := ohere_any H2.cur 4
    have HR2 := hide R2
    clear hre b2 r0 c0 c1 c2 c3 HR HB HH H2 R2
    go_wp2_with fail
    refine hh.mono ?_
    rintro e w3 ⟨rfl, b3⟩
    have R3 := HR2.out.below b3
    have HB3 := hide (HB2.out.trans (b3.mono HB2.out.size))
    obtain ⟨k0, k1, f0, f1⟩ := R3.two
    have HR3 := hide R3
    clear hh R3 b3 HR2 HB2
    go_wp2
    clear k0 k1 f0 f1
    obtain ⟨g0, g1, _, _⟩ := (HR3.out.set2 (.int .i64 4) (.int .i64 (s.at_ : Nat))).two
    have HBZ := (HB3.out.setCell (p := ⟨w.heap.size, 0, none⟩) (Nat.le_refl _) (.int .i64 4)).setCell (p := ⟨w.heap.size, 1, none⟩) (Nat.le_refl _) (.int .i64 (s.at_ : Nat))
    refine bodyPost_ret (v := .agg #[.int .i64 4, .int .i64 (s.at_ : Nat)]) (by simp [results, Try.f63, go_sem, g0, g1]) rfl ?_
    exact ⟨rfl, HBZ⟩
  · have he : endR zs s = (s.er, s.fa) := if_neg h
    have hq : restR zs s = 0 := by
      unfold restR
      by_cases h0 : s.er = 0
      · have : ¬ s.at_ < zs.length := fun h1 => h ⟨h0, h1⟩
        rw [if_pos h0]; omega
      · rw [if_neg h0]
    rw [he]
    rw [hq] at hre
    clear he hz hle h hq
    go_enter Try.func63, Try.ntmps63
    go_wp2_with fail
    refine hno.mono ?_
    rintro e w1 ⟨rfl, rfl⟩
    clear hno
    go_wp2_with fail
    refine hre.mono ?_
    rintro e w2 ⟨rfl, b2⟩
    have H2 := HH.out.below b2
    have R2 := HR.out.below b2
    have HB2 := hide (HB.out.trans (Below.mono b2 HB.out.size))
    obtain ⟨q0, _⟩ := one_of H2.rdr
    obtain ⟨_, _, d2, d3, _, _, _, _⟩ := four_cells H2.cur
    obtain ⟨k0, k1, f0, f1⟩ := R2.two
    have HR2 := hide R2
    clear hre b2 r0 c0 c1 c2 c3 HR HB HH H2 R2
    go_wp2
    clear k0 k1 f0 f1 d2 d3 q0
    obtain ⟨g0, g1, _, _⟩ := (HR2.out.set2 (.int .i64 s.er) (.int .i64 s.fa)).two
    have HBZ := (HB2.out.setCell (p := ⟨w.heap.size, 0, none⟩) (Nat.le_refl _) (.int .i64 s.er)).setCell (p := ⟨w.heap.size, 1, none⟩) (Nat.le_refl _) (.int .i64 s.fa)
    refine bodyPost_ret (v := .agg #[.int .i64 s.er, .int .i64 s.fa]) (by simp [results, Try.f63, go_sem, g0, g1]) rfl ?_
    exact ⟨rfl, HBZ⟩
structure GetMid (lo : Nat) (w : World) (X : List Int × Int × Int) (b : Option Addr) (m d F : Nat) (W : World) : Prop where
  below : Below w.heap.size w W
  fault : Box W F (.cells #[.int .i64 X.2.1, .int .i64 X.2.2] 62)
  res : Box W w.heap.size fz
  byt : Byt lo W (.slice b m d) X.1
  ne : w.heap.size < F
def GetOn (c N : Nat) (a : Option Addr) (n cap : Nat) (x : Nat × RS) (W : World) (e : Ending) (w2 : World) : Prop :=
  ∃ (er' fa' : Int), e = .returned (.agg #[.int .i64 x.2.er, .int .i64 x.2.fa]) ∧ Cur w2 c (.slice a n cap) x.2.at_ er' fa' ∧ Spared (fun k => k = c ∨ k = N) W w2 ∧ Box w2 N (.cells #[.int .i64 (x.1 : Nat)] 3)
theorem getR_bad {zs : List Int} {s : RS} {k : Int} (h0 : s.er = 0) (hb : ¬ (nextR zs s.at_ k (decide (IsW k))).2.1 = 0) : getR zs s k = (0, ⟨s.at_, (nextR zs s.at_ k (decide (IsW k))).2.1, (nextR zs s.at_ k (decide (IsW k))).2.2⟩) := by
  unfold getR nextR at *
  rw [if_pos h0]
  by_cases hw : IsW k
  · rw [if_pos hw, decide_eq_true hw, if_pos rfl]
    rw [decide_eq_true hw, if_pos rfl] at hb
    by_cases hl : (zs.length : Int) - s.at_ < k
    · rw [if_pos hl, if_pos hl]
    · rw [if_neg hl] at hb
      exact absurd rfl hb
  · rw [if_neg hw, decide_eq_false hw]
    rfl
theorem getR_good {zs : List Int} {s : RS} {k : Int} (h0 : s.er = 0) (hb : (nextR zs s.at_ k (decide (IsW k))).2.1 = 0) : IsW k ∧ s.at_ + k.toNat ≤ zs.length + s.at_ ∧ (k : Int) ≤ (zs.length : Int) - s.at_ ∧ (nextR zs s.at_ k (decide (IsW k))).1 = (zs.drop s.at_).take k.toNat ∧ getR zs s k = if nb (nextR zs s.at_ k (decide (IsW k))).1 < 9223372036854775808 then (nb (nextR zs s.at_ k (decide (IsW k))).1, ⟨s.at_ + k.toNat, 0, 0⟩) else (0, ⟨s.at_, 3, s.at_⟩) := by
  unfold nextR at hb ⊢
  by_cases hw : IsW k
  · rw [decide_eq_true hw, if_pos rfl] at hb
    by_cases hl : (zs.length : Int) - s.at_ < k
    · rw [if_pos hl] at hb
      exact absurd hb (by show ¬ (7 : Int) = 0; decide)
    · rw [decide_eq_true hw, if_pos rfl, if_neg hl]
      have : 0 < k := by rcases hw with h | h | h | h <;> omega
      refine ⟨hw, by omega, by omega, rfl, ?_⟩
      unfold getR
      rw [if_pos h0, if_pos hw, if_neg hl]
  · rw [decide_eq_false hw] at hb
    exact absurd hb (by show ¬ (2 : Int) = 0; decide)
theorem leaf {P G : Prop} (h : P → G) (p : P) : G := h p
theorem GetMid.late {lo m d : Nat} {w w2 : World} {X : List Int × Int × Int} {b : Option Addr} (hb : Below (w.alloc fz).heap.size (w.alloc fz) w2) (S : Byt lo w2 (.slice b m d) X.1) :
    GetMid lo w X b m d w2.heap.size (w2.alloc (.cells #[.int .i64 X.2.1, .int .i64 X.2.2] 62)) := by
  have B1 := below_new w fz
  have B3 := below_new w2 (.cells #[.int .i64 X.2.1, .int .i64 X.2.2] 62)
  have hB := hb.trans (B3.mono hb.size)
  exact ⟨B1.trans (hB.mono B1.size), Box.new w2 _, (Box.new w fz).below hB, S.below B3, Nat.lt_of_lt_of_le (Box.new w fz).lt hb.size⟩
theorem GetMid.early {lo m d : Nat} {w w2 : World} {X : List Int × Int × Int} {b : Option Addr} (hb : Below ((w.alloc fz).alloc fz).heap.size ((w.alloc fz).alloc fz) w2) (S : Byt lo w2 (.slice b m d) X.1) :
    GetMid lo w X b m d (w.heap.size + 1) ((w2.setCell ⟨w.heap.size + 1, 0, none⟩ (.int .i64 X.2.1)).setCell ⟨w.heap.size + 1, 1, none⟩ (.int .i64 X.2.2)) := by
  have B1 := below_new w fz
  have B2 := below_new (w.alloc fz) fz
  have F2 := (Box.put (w := w.alloc fz) (k := w.heap.size + 1) fz (by simp)).below hb
  have R2 := (((Box.new w fz).below B2).below hb)
  have B := B1.trans ((B2.trans (hb.mono B2.size)).mono B1.size)
  refine ⟨(B.setCell (p := ⟨w.heap.size + 1, 0, none⟩) (Nat.le_succ _) _).setCell (p := ⟨w.heap.size + 1, 1, none⟩) (Nat.le_succ _) _, F2.set2 _ _, Box.aside (Box.aside R2 0 _ (by omega)) 1 _ (by omega), ?_, Nat.lt_succ_self _⟩
  have S5 : Spared (fun k => k = w.heap.size + 1) w2 ((w2.setCell ⟨w.heap.size + 1, 0, none⟩ (.int .i64 X.2.1)).setCell ⟨w.heap.size + 1, 1, none⟩ (.int .i64 X.2.2)) := ((Spared.refl (fun k => k = w.heap.size + 1) w2).setCell (k := w.heap.size + 1) rfl 0 _).setCell (k := w.heap.size + 1) rfl 1 _
  exact S.keep S5 (fun hz g o e h => S.off F2 (fun i x e => by
    match i with
    | 0 => simp at e
    | 1 => simp at e
    | i + 2 => simp at e) hz g o e h)
set_option maxRecDepth 100000 in
set_option maxHeartbeats 4000000 in
theorem orget1_any {lo r c n cap A D N : Nat} {a : Option Addr} {zs : List Int} {s : RS} {k : Int} {w : World} (H : PR lo w r c a n cap zs s) (hA : Box w A (.cells #[.pointer (some ⟨r, 0, none⟩)] 86)) (hD : Box w D (.cells #[.int .i64 k] 3)) (hN : Box w N (.cells #[.int .i64 0] 3)) (h0 : s.er = 0) (hDN : ¬ D = N) (may : Bool) (hm : may = decide (IsW k)) :
    Calls Try.prog 69 #[.pointer (some ⟨A, 0, none⟩), .pointer (some ⟨D, 0, none⟩), .pointer (some ⟨N, 0, none⟩)] w (GetOn c N a n cap (getR zs s k) w) := by
  have hi : ∀ W, Calls Try.prog 48 #[.int .i64 k] W fun e w' => e = .returned (.bool may) ∧ w' = W := fun W => by rw [hm]; exact oisw_any k W
  have hx : ∀ W, Below w.heap.size w W → Calls Try.prog 70 #[.pointer (some ⟨r, 0, none⟩), .int .i64 k, .bool may] W (NextSaid lo (nextR zs s.at_ k may) W) := fun W hW =>
    onext_any (Box.below H.rdr hW) (Box.below H.cur hW) (H.byt.below hW) (by rw [H.byt.len.1]; exact H.ok.1) (Nat.le_trans H.small (by decide)) may (fun h => by rw [hm] at h; have := of_decide_eq_true h; unfold IsW at this; omega)
  obtain ⟨X, hX⟩ : ∃ X, nextR zs s.at_ k may = X := ⟨_, rfl⟩
  rw [hX] at hx
  have HM := hide hm
  have H0 := hide h0
  have HDN0 := hide hDN
  have HI := hide hi
  have HX := hide hx
  have HA := hide hA
  have HD := hide hD
  have HN := hide hN
  have HH := hide H
  have HEX := hide hX
  have hkeep : ∀ V : World, Below w.heap.size w V → V.cell? ⟨A, 0, none⟩ = some (.pointer (some ⟨r, 0, none⟩)) ∧ V.cell? ⟨D, 0, none⟩ = some (.int .i64 k) := fun V hV => ⟨(one_of (HA.out.below hV)).1, (one_of (HD.out.below hV)).1⟩
  have HK := hide hkeep
  have B1 := below_new w fz
  have HB1 := hide B1
  have hs0 := hkeep _ B1
  clear H hA hD hN hX hi hx hkeep B1 hm h0 hDN
  unfold fz at hs0
  go_enter Try.func69, Try.ntmps69
  go_wp2_with fail
  apply leaf
  · intro HEND
    refine wp_region_held_drew (S := fun V : World => V.cell? ⟨A, 0, none⟩ = some (.pointer (some ⟨r, 0, none⟩)) ∧ V.cell? ⟨D, 0, none⟩ = some (.int .i64 k)) (by kernel_rfl) hs0 (fun hHeld => ?_)
    refine wpAnyH_take (i := 0) (v := ?_) rfl (by kernel_rfl) (by kernel_rfl) (by kernel_rfl) (fun _ _ _ h => h) (Or.inl ⟨by rfl, ?_⟩) (by assumption) ?_
    rotate_left
    · intro w hSw
      try dsimp only at hSw
      go_simp
      try with_reducible rfl
    simp only [Act.put, List.setIfInBounds_toArray, List.set_cons_zero, List.set_cons_succ, List.getElem_toArray, List.getElem_cons_zero]
    refine wpAnyH_take (i := 1) (v := ?_) rfl (by kernel_rfl) (by kernel_rfl) (by kernel_rfl) (fun _ _ _ h => h) (Or.inl ⟨by rfl, ?_⟩) (by assumption) ?_
    rotate_left
    · intro w hSw
      try dsimp only at hSw
      go_simp
      try with_reducible rfl
    simp only [Act.put, List.setIfInBounds_toArray, List.set_cons_zero, List.set_cons_succ, List.getElem_toArray, List.getElem_cons_zero, List.getElem_cons_succ]
    refine wpAnyH_take (i := 2) (v := ?_) rfl (by kernel_rfl) (by kernel_rfl) (by kernel_rfl) (fun _ _ _ h => h) (Or.inl ⟨by rfl, ?_⟩) (by assumption) ?_
    rotate_left
    · intro w hSw
      try dsimp only at hSw
      go_simp
      try with_reducible rfl
    simp only [Act.put, List.setIfInBounds_toArray, List.set_cons_zero, List.set_cons_succ, List.getElem_toArray, List.getElem_cons_zero, List.getElem_cons_succ]
    refine wpAnyH_ready (rs := [3, 8]) (by kernel_rfl) (by simp) ?_
    refine AllReadyH.cons rfl (fun K hK => ?_) (AllReadyH.cons rfl (fun K hK => ?_) AllReadyH.nil)
    · have hb0 : Below w.heap.size w ((w.alloc (.cells #[.int .i64 0, .int .i64 0] 62)).drew) := HB1.out.drew
      go_simp
      go_at_call 48
      refine (HI.out _).mono ?_
      rintro e w1 ⟨rfl, hw1⟩
      obtain rfl := hw1.symm
      clear hw1
      dsimp only
      clear hHeld
      refine hK.out _ _ (HK.out _ hb0) (fun hHeld => ?_)
      clear hK K
      try simp only [Act.put, List.setIfInBounds_toArray, List.set_cons_zero, List.set_cons_succ, List.getElem_toArray, List.getElem_cons_zero, List.getElem_cons_succ]
      refine wpAnyH_ready (rs := [4, 8]) (by kernel_rfl) (by simp) ?_
      refine AllReadyH.cons rfl (fun K hK => ?_) (AllReadyH.cons rfl (fun K hK => ?_) AllReadyH.nil)
      · skip
        go_simp
        go_at_call 70
        refine (HX.out _ hb0).mono ?_
        rintro e w2 ⟨b, m, d, rfl, S, b2⟩
        dsimp only
        have hb1 := hb0.trans (b2.mono hb0.size)
        clear hHeld
        refine hK.out _ _ (HK.out _ hb1) (fun hHeld => ?_)
        clear hK K
        try simp only [Act.put, List.setIfInBounds_toArray, List.set_cons_zero, List.set_cons_succ, List.getElem_toArray, List.getElem_cons_zero, List.getElem_cons_succ]
        refine wpAnyH_take (i := 5) (v := ?_) rfl (by kernel_rfl) (by kernel_rfl) (by kernel_rfl) (fun _ _ _ h => h) (Or.inl ⟨by rfl, ?_⟩) (by assumption) ?_
        rotate_left
        · intro w hSw
          try dsimp only at hSw
          go_simp
          try with_reducible rfl
        simp only [Act.put, List.setIfInBounds_toArray, List.set_cons_zero, List.set_cons_succ, List.getElem_toArray, List.getElem_cons_zero, List.getElem_cons_succ]
        refine wpAnyH_take (i := 6) (v := ?_) rfl (by kernel_rfl) (by kernel_rfl) (by kernel_rfl) (fun _ _ _ h => h) (Or.inl ⟨by rfl, ?_⟩) (by assumption) ?_
        rotate_left
        · intro w hSw
          try dsimp only at hSw
          go_simp
          try with_reducible rfl
        simp only [Act.put, List.setIfInBounds_toArray, List.set_cons_zero, List.set_cons_succ, List.getElem_toArray, List.getElem_cons_zero, List.getElem_cons_succ]
        refine wpAnyH_take (i := 7) (v := ?_) rfl (by kernel_rfl) (by kernel_rfl) (by kernel_rfl) (fun _ _ _ h => h) (Or.inl ⟨by rfl, ?_⟩) (by assumption) ?_
        rotate_left
        · intro w hSw
          try dsimp only at hSw
          go_simp
          try with_reducible rfl
        simp only [Act.put, List.setIfInBounds_toArray, List.set_cons_zero, List.set_cons_succ, List.getElem_toArray, List.getElem_cons_zero, List.getElem_cons_succ]
        refine wpAnyH_ready (rs := [8]) (by kernel_rfl) (by simp) ?_
        refine AllReadyH.cons rfl (fun K hK => ?_) AllReadyH.nil
        go_simp
        try dsimp only
        have hb2 := hb1.trans ((below_new w2 (.cells #[.int .i64 0, .int .i64 0] 62)).mono hb1.size)
        clear hHeld
        refine hK.out _ _ (HK.out _ hb2) (fun hHeld => ?_)
        clear hK K
        try simp only [Act.put, List.setIfInBounds_toArray, List.set_cons_zero, List.set_cons_succ, List.getElem_toArray, List.getElem_cons_zero, List.getElem_cons_succ]
        refine wpAnyH_take (i := 9) (v := ?_) rfl (by kernel_rfl) (by kernel_rfl) (by kernel_rfl) (fun _ _ _ h => h) (Or.inl ⟨by rfl, ?_⟩) (by assumption) ?_
        rotate_left
        · intro w hSw
          try dsimp only at hSw
          go_simp
          try with_reducible rfl
        simp only [Act.put, List.setIfInBounds_toArray, List.set_cons_zero, List.set_cons_succ, List.getElem_toArray, List.getElem_cons_zero, List.getElem_cons_succ]
        refine wpAnyH_ready (rs := [10]) (by kernel_rfl) (by simp) ?_
        refine AllReadyH.cons rfl (fun K hK => ?_) AllReadyH.nil
        go_simp
        try dsimp only
        have hb3 := hb1.trans ((below_new w2 (.cells #[.int .i64 X.2.1, .int .i64 X.2.2] 62)).mono hb1.size)
        clear hHeld
        refine hK.out _ _ (HK.out _ hb3) (fun hHeld => ?_)
        clear hK K
        try simp only [Act.put, List.setIfInBounds_toArray, List.set_cons_zero, List.set_cons_succ, List.getElem_toArray, List.getElem_cons_zero, List.getElem_cons_succ]
        refine wpAnyH_done (by kernel_rfl) ?_ _
        clear hHeld
        have hg := GetMid.late (b := b) (X := X) (w := w) ((Below.refl _ (w.alloc fz)).drew.trans b2) S
        clear hb0 hb1 hb2 hb3 S b2
        revert hg
        generalize w2.alloc (.cells #[.int .i64 X.2.1, .int .i64 X.2.2] 62) = W
        generalize w2.heap.size = F
        revert b m d W F
        exact HEND
      · skip
        go_simp
        try dsimp only
        have hb1 : Below w.heap.size w ((w.alloc (.cells #[.int .i64 0, .int .i64 0] 62)).alloc (.cells #[.int .i64 0, .int .i64 0] 62)).drew := (HB1.out.trans ((below_new (w.alloc (.cells #[.int .i64 0, .int .i64 0] 62)) (.cells #[.int .i64 0, .int .i64 0] 62)).mono HB1.out.size)).drew
        clear hHeld
        refine hK.out _ _ (HK.out _ hb1) (fun hHeld => ?_)
        clear hK K
        try simp only [Act.put, List.setIfInBounds_toArray, List.set_cons_zero, List.set_cons_succ, List.getElem_toArray, List.getElem_cons_zero, List.getElem_cons_succ]
        refine wpAnyH_ready (rs := [4]) (by kernel_rfl) (by simp) ?_
        refine AllReadyH.cons rfl (fun K hK => ?_) AllReadyH.nil
        go_simp
        go_at_call 70
        refine (HX.out _ hb1).mono ?_
        rintro e w2 ⟨b, m, d, rfl, S, b2⟩
        dsimp only
        have hb2 := hb1.trans (b2.mono hb1.size)
        clear hHeld
        refine hK.out _ _ (HK.out _ hb2) (fun hHeld => ?_)
        clear hK K
        try simp only [Act.put, List.setIfInBounds_toArray, List.set_cons_zero, List.set_cons_succ, List.getElem_toArray, List.getElem_cons_zero, List.getElem_cons_succ]
        refine wpAnyH_take (i := 5) (v := ?_) rfl (by kernel_rfl) (by kernel_rfl) (by kernel_rfl) (fun _ _ _ h => h) (Or.inl ⟨by rfl, ?_⟩) (by assumption) ?_
        rotate_left
        · intro w hSw
          try dsimp only at hSw
          go_simp
          try with_reducible rfl
        simp only [Act.put, List.setIfInBounds_toArray, List.set_cons_zero, List.set_cons_succ, List.getElem_toArray, List.getElem_cons_zero, List.getElem_cons_succ]
        refine wpAnyH_take (i := 6) (v := ?_) rfl (by kernel_rfl) (by kernel_rfl) (by kernel_rfl) (fun _ _ _ h => h) (Or.inl ⟨by rfl, ?_⟩) (by assumption) ?_
        rotate_left
        · intro w hSw
          try dsimp only at hSw
          go_simp
          try with_reducible rfl
        simp only [Act.put, List.setIfInBounds_toArray, List.set_cons_zero, List.set_cons_succ, List.getElem_toArray, List.getElem_cons_zero, List.getElem_cons_succ]
        refine wpAnyH_take (i := 7) (v := ?_) rfl (by kernel_rfl) (by kernel_rfl) (by kernel_rfl) (fun _ _ _ h => h) (Or.inl ⟨by rfl, ?_⟩) (by assumption) ?_
        rotate_left
        · intro w hSw
          try dsimp only at hSw
          go_simp
          try with_reducible rfl
        simp only [Act.put, List.setIfInBounds_toArray, List.set_cons_zero, List.set_cons_succ, List.getElem_toArray, List.getElem_cons_zero, List.getElem_cons_succ]
        refine wpAnyH_take (i := 9) (v := ?_) rfl (by kernel_rfl) (by kernel_rfl) (by kernel_rfl) (fun _ _ _ h => h) (Or.inl ⟨by rfl, ?_⟩) (by assumption) ?_
        rotate_left
        · intro w hSw
          try dsimp only at hSw
          go_simp
          try with_reducible rfl
        simp only [Act.put, List.setIfInBounds_toArray, List.set_cons_zero, List.set_cons_succ, List.getElem_toArray, List.getElem_cons_zero, List.getElem_cons_succ]
        refine wpAnyH_ready (rs := [10]) (by kernel_rfl) (by simp) ?_
        refine AllReadyH.cons rfl (fun K hK => ?_) AllReadyH.nil
        have b3 : Below ((w.alloc fz).alloc fz).heap.size ((w.alloc fz).alloc fz) w2 := (Below.refl _ ((w.alloc fz).alloc fz)).drew.trans b2
        have hF2 := ((Box.put (w := w.alloc fz) (k := w.heap.size + 1) fz (by simp)).below b3).two
        have k0 := hF2.1
        have k1 := hF2.2.1
        have f0 := hF2.2.2.1
        have f1 := hF2.2.2.2
        clear hF2
        go_simp
        try dsimp only
        clear k0 k1 f0 f1
        have hg := GetMid.early (b := b) (X := X) (w := w) b3 S
        clear hHeld
        refine hK.out _ _ (HK.out _ hg.below) (fun hHeld => ?_)
        clear hK K
        try simp only [Act.put, List.setIfInBounds_toArray, List.set_cons_zero, List.set_cons_succ, List.getElem_toArray, List.getElem_cons_zero, List.getElem_cons_succ]
        refine wpAnyH_done (by kernel_rfl) ?_ _
        clear hHeld
        clear hb0 hb1 hb2 S b2 b3
        revert hg
        generalize (w2.setCell ⟨w.heap.size + 1, 0, none⟩ (.int .i64 X.2.1)).setCell ⟨w.heap.size + 1, 1, none⟩ (.int .i64 X.2.2) = W
        generalize w.heap.size + 1 = F
        revert b m d W F
        exact HEND
    · have hb0 : Below w.heap.size w ((w.alloc (.cells #[.int .i64 0, .int .i64 0] 62)).drew) := HB1.out.drew
      go_simp
      try dsimp only
      have hb1 : Below w.heap.size w ((w.alloc (.cells #[.int .i64 0, .int .i64 0] 62)).alloc (.cells #[.int .i64 0, .int .i64 0] 62)).drew := (HB1.out.trans ((below_new (w.alloc (.cells #[.int .i64 0, .int .i64 0] 62)) (.cells #[.int .i64 0, .int .i64 0] 62)).mono HB1.out.size)).drew
      clear hHeld
      refine hK.out _ _ (HK.out _ hb1) (fun hHeld => ?_)
      clear hK K
      try simp only [Act.put, List.setIfInBounds_toArray, List.set_cons_zero, List.set_cons_succ, List.getElem_toArray, List.getElem_cons_zero, List.getElem_cons_succ]
      refine wpAnyH_ready (rs := [3]) (by kernel_rfl) (by simp) ?_
      refine AllReadyH.cons rfl (fun K hK => ?_) AllReadyH.nil
      go_simp
      go_at_call 48
      refine (HI.out _).mono ?_
      rintro e w1 ⟨rfl, hw1⟩
      obtain rfl := hw1.symm
      clear hw1
      dsimp only
      clear hHeld
      refine hK.out _ _ (HK.out _ hb1) (fun hHeld => ?_)
      clear hK K
      try simp only [Act.put, List.setIfInBounds_toArray, List.set_cons_zero, List.set_cons_succ, List.getElem_toArray, List.getElem_cons_zero, List.getElem_cons_succ]
      refine wpAnyH_ready (rs := [4]) (by kernel_rfl) (by simp) ?_
      refine AllReadyH.cons rfl (fun K hK => ?_) AllReadyH.nil
      go_simp
      go_at_call 70
      refine (HX.out _ hb1).mono ?_
      rintro e w2 ⟨b, m, d, rfl, S, b2⟩
      dsimp only
      have hb2 := hb1.trans (b2.mono hb1.size)
      clear hHeld
      refine hK.out _ _ (HK.out _ hb2) (fun hHeld => ?_)
      clear hK K
      try simp only [Act.put, List.setIfInBounds_toArray, List.set_cons_zero, List.set_cons_succ, List.getElem_toArray, List.getElem_cons_zero, List.getElem_cons_succ]
      refine wpAnyH_take (i := 5) (v := ?_) rfl (by kernel_rfl) (by kernel_rfl) (by kernel_rfl) (fun _ _ _ h => h) (Or.inl ⟨by rfl, ?_⟩) (by assumption) ?_
      rotate_left
      · intro w hSw
        try dsimp only at hSw
        go_simp
        try with_reducible rfl
      simp only [Act.put, List.setIfInBounds_toArray, List.set_cons_zero, List.set_cons_succ, List.getElem_toArray, List.getElem_cons_zero, List.getElem_cons_succ]
      refine wpAnyH_take (i := 6) (v := ?_) rfl (by kernel_rfl) (by kernel_rfl) (by kernel_rfl) (fun _ _ _ h => h) (Or.inl ⟨by rfl, ?_⟩) (by assumption) ?_
      rotate_left
      · intro w hSw
        try dsimp only at hSw
        go_simp
        try with_reducible rfl
      simp only [Act.put, List.setIfInBounds_toArray, List.set_cons_zero, List.set_cons_succ, List.getElem_toArray, List.getElem_cons_zero, List.getElem_cons_succ]
      refine wpAnyH_take (i := 7) (v := ?_) rfl (by kernel_rfl) (by kernel_rfl) (by kernel_rfl) (fun _ _ _ h => h) (Or.inl ⟨by rfl, ?_⟩) (by assumption) ?_
      rotate_left
      · intro w hSw
        try dsimp only at hSw
        go_simp
        try with_reducible rfl
      simp only [Act.put, List.setIfInBounds_toArray, List.set_cons_zero, List.set_cons_succ, List.getElem_toArray, List.getElem_cons_zero, List.getElem_cons_succ]
      refine wpAnyH_take (i := 9) (v := ?_) rfl (by kernel_rfl) (by kernel_rfl) (by kernel_rfl) (fun _ _ _ h => h) (Or.inl ⟨by rfl, ?_⟩) (by assumption) ?_
      rotate_left
      · intro w hSw
        try dsimp only at hSw
        go_simp
        try with_reducible rfl
      simp only [Act.put, List.setIfInBounds_toArray, List.set_cons_zero, List.set_cons_succ, List.getElem_toArray, List.getElem_cons_zero, List.getElem_cons_succ]
      refine wpAnyH_ready (rs := [10]) (by kernel_rfl) (by simp) ?_
      refine AllReadyH.cons rfl (fun K hK => ?_) AllReadyH.nil
      have b3 : Below ((w.alloc fz).alloc fz).heap.size ((w.alloc fz).alloc fz) w2 := (Below.refl _ ((w.alloc fz).alloc fz)).drew.trans b2
      have hF2 := ((Box.put (w := w.alloc fz) (k := w.heap.size + 1) fz (by simp)).below b3).two
      have k0 := hF2.1
      have k1 := hF2.2.1
      have f0 := hF2.2.2.1
      have f1 := hF2.2.2.2
      clear hF2
      go_simp
      try dsimp only
      clear k0 k1 f0 f1
      have hg := GetMid.early (b := b) (X := X) (w := w) b3 S
      clear hHeld
      refine hK.out _ _ (HK.out _ hg.below) (fun hHeld => ?_)
      clear hK K
      try simp only [Act.put, List.setIfInBounds_toArray, List.set_cons_zero, List.set_cons_succ, List.getElem_toArray, List.getElem_cons_zero, List.getElem_cons_succ]
      refine wpAnyH_done (by kernel_rfl) ?_ _
      clear hHeld
      clear hb0 hb1 hb2 S b2 b3
      revert hg
      generalize (w2.setCell ⟨w.heap.size + 1, 0, none⟩ (.int .i64 X.2.1)).setCell ⟨w.heap.size + 1, 1, none⟩ (.int .i64 X.2.2) = W
      generalize w.heap.size + 1 = F
      revert b m d W F
      exact HEND
  · intro b m d W F hg
    have hcl := HH.out.cur.lt
    have HF := hg.fault
    have hFc : ¬ F = c := fun e => Box.apart HF (Box.below HH.out.cur hg.below) (by decide) e
    have hRc : ¬ w.heap.size = c := by omega
    have hcR : ¬ c = w.heap.size := by omega
    have hNl := HN.out.lt
    have hRN : ¬ w.heap.size = N := by omega
    have hNR : ¬ N = w.heap.size := by omega
    obtain ⟨k0, k1, _, _⟩ := HF.two
    obtain ⟨q0, q1, p0, p1⟩ := hg.res.two
    have HG := hide hg
    clear hg HF
    by_cases hbad : X.2.1 = 0
    · have hgood := getR_good (zs := zs) (s := s) (k := k) H0.out (by rw [← HM.out, HEX.out]; exact hbad)
      rw [← HM.out, HEX.out] at hgood
      have HGD := hide hgood
      have hX1 := hgood.2.2.2.1
      have hm8 : m ≤ 8 := by
        have := HG.out.byt.len.1
        have h1 := hgood.1
        rw [hX1, List.length_take] at this
        unfold IsW at h1
        omega
      have hv := ovalue_any HG.out.byt hm8
      obtain ⟨v, hnv⟩ : ∃ v, nb X.1 = v := ⟨_, rfl⟩
      rw [hnv] at hv
      have HV := hide hnv
      clear hgood hX1 hm8 hnv
      by_cases hbig : v < 9223372036854775808
      · have hnb : ¬ 9223372036854775807 < (v : Int) := by omega
        have hwn : IntKind.i64.wrap (v : Int) = (v : Int) := by rw [IntKind.wrap_i64]; omega
        have hcN : ¬ c = N := fun e => Box.apart HH.out.cur HN.out (by decide) e
        have hNc : ¬ N = c := fun e => hcN e.symm
        have hrN : ¬ r = N := fun e => Box.apart HH.out.rdr HN.out (by decide) e
        have hAN : ¬ A = N := fun e => Box.apart HA.out HN.out (by decide) e
        have hkl := HGD.out.2.2.1
        have hwr : IntKind.i64.wrap ((s.at_ : Int) + k) = (s.at_ : Int) + k := by
          have := HH.out.small; have := HH.out.byt.len.1; have := HH.out.ok.1; have h1 := HGD.out.1
          unfold IsW at h1
          rw [IntKind.wrap_i64]; omega
        have HBIG := hide hbig
        obtain ⟨a0, _⟩ := one_of (HA.out.below HG.out.below)
        obtain ⟨d0, _⟩ := one_of (HD.out.below HG.out.below)
        obtain ⟨n0, m0⟩ := one_of (HN.out.below HG.out.below)
        obtain ⟨r0, _⟩ := one_of (Box.below HH.out.rdr HG.out.below)
        obtain ⟨_, c1, _, _, _, f1, _, _⟩ := four_cells (Box.below HH.out.cur HG.out.below)
        have hDN := HDN0.out
        clear hkl hbig
        go_wp2_with fail
        refine hv.mono ?_
        rintro e w3 ⟨rfl, hw3⟩
        obtain rfl := hw3.symm
        clear hv hw3
        go_wp2_with fail
        go_region
        all_goals
          go_wp2
          clear k0 k1 q0 q1 p0 p1 a0 d0 n0 m0 r0 c1 f1
          have e1 : ((s.at_ + k.toNat : Nat) : Int) = (s.at_ : Int) + k := by have h1 := HGD.out.1; unfold IsW at h1; omega
          have C7 := Box.aside (Box.aside (Box.put1 (Box.aside (Box.below HH.out.cur HG.out.below) (g := N) 0 (.int .i64 (v : Nat)) hcN) 1 (.int .i64 ((s.at_ : Int) + k))) (g := w.heap.size) 0 (.int .i64 0) hcR) (g := w.heap.size) 1 (.int .i64 0) hcR
          have N7 := Box.aside (Box.aside (Box.aside (Box.put1 (HN.out.below HG.out.below) 0 (.int .i64 (v : Nat))) (g := c) 1 (.int .i64 ((s.at_ : Int) + k)) hNc) (g := w.heap.size) 0 (.int .i64 0) hNR) (g := w.heap.size) 1 (.int .i64 0) hNR
          have R7 := (Box.aside (Box.aside HG.out.res (g := N) 0 (.int .i64 (v : Nat)) hRN) (g := c) 1 (.int .i64 ((s.at_ : Int) + k)) hRc).set2 (.int .i64 0) (.int .i64 0)
          have S7 : Spared (fun k => k = c ∨ k = N ∨ k = w.heap.size) W ((((W.setCell ⟨N, 0, none⟩ (.int .i64 (v : Nat))).setCell ⟨c, 1, none⟩ (.int .i64 ((s.at_ : Int) + k))).setCell ⟨w.heap.size, 0, none⟩ (.int .i64 0)).setCell ⟨w.heap.size, 1, none⟩ (.int .i64 0)) := ((((Spared.refl (fun k => k = c ∨ k = N ∨ k = w.heap.size) W).setCell (k := N) (.inr (.inl rfl)) 0 _).setCell (k := c) (.inl rfl) 1 _).setCell (k := w.heap.size) (.inr (.inr rfl)) 0 _).setCell (k := w.heap.size) (.inr (.inr rfl)) 1 _
          obtain ⟨g0, g1, _, _⟩ := R7.two
          have W7 : GetOn c N a n cap (getR zs s k) w (.returned (.agg #[.int .i64 0, .int .i64 0])) ((((W.setCell ⟨N, 0, none⟩ (.int .i64 (v : Nat))).setCell ⟨c, 1, none⟩ (.int .i64 ((s.at_ : Int) + k))).setCell ⟨w.heap.size, 0, none⟩ (.int .i64 0)).setCell ⟨w.heap.size, 1, none⟩ (.int .i64 0)).drew := by
            have hx := HGD.out.2.2.2.2
            rw [HV.out, if_pos HBIG.out] at hx
            rw [hx]
            refine ⟨s.er, s.fa, rfl, ?_, (Spared.of_below _ HG.out.below).next S7.drew (fun i hi h => ?_), N7.drew⟩
            · show Cur _ c (.slice a n cap) ((s.at_ + k.toNat : Nat) : Int) s.er s.fa
              rw [e1]
              exact C7.drew
            · rcases h with h | h | h
              · exact .inl h
              · exact .inr h
              · omega
          refine bodyPost_ret (v := .agg #[.int .i64 0, .int .i64 0]) (by simp [results, Try.f69, go_sem, g0, g1]) rfl ?_
          exact W7
      · have hnb : 9223372036854775807 < (v : Int) := by omega
        have HBIG := hide hbig
        have hh := ohere_any (Box.below HH.out.cur HG.out.below) 3
        obtain ⟨a0, _⟩ := one_of (HA.out.below HG.out.below)
        obtain ⟨r0, _⟩ := one_of (Box.below HH.out.rdr HG.out.below)
        clear hbig
        go_wp2_with fail
        refine hv.mono ?_
        rintro e w3 ⟨rfl, hw3⟩
        obtain rfl := hw3.symm
        clear hv hw3
        go_wp2_with fail
        refine hh.mono ?_
        rintro e w4 ⟨rfl, b4⟩
        have R4 := HG.out.res.below b4
        have HB4 := hide (HG.out.below.trans (b4.mono HG.out.below.size))
        have HR4 := hide R4
        clear hh b4 k0 k1 q0 q1 p0 p1 a0 r0
        obtain ⟨q0, q1, p0, p1⟩ := R4.two
        clear R4
        go_wp2
        clear q0 q1 p0 p1
        obtain ⟨g0, g1, _, _⟩ := (HR4.out.set2 (.int .i64 3) (.int .i64 (s.at_ : Nat))).two
        have HBZ := (HB4.out.setCell (p := ⟨w.heap.size, 0, none⟩) (Nat.le_refl _) (.int .i64 3)).setCell (p := ⟨w.heap.size, 1, none⟩) (Nat.le_refl _) (.int .i64 (s.at_ : Nat))
        have hx := HGD.out.2.2.2.2
        rw [HV.out, if_neg HBIG.out] at hx
        rw [hx]
        refine bodyPost_ret (v := .agg #[.int .i64 3, .int .i64 (s.at_ : Nat)]) (by simp [results, Try.f69, go_sem, g0, g1]) rfl ?_
        exact ⟨s.er, s.fa, rfl, Box.below HH.out.cur HBZ, Spared.of_below _ HBZ, HN.out.below HBZ⟩
    · have hx := getR_bad (zs := zs) (s := s) (k := k) H0.out (by rw [← HM.out, HEX.out]; exact hbad)
      rw [← HM.out, HEX.out] at hx
      have HX := hide hx
      clear hx
      go_wp2
      clear k0 k1 q0 q1 p0 p1
      rw [HX.out]
      obtain ⟨g0, g1, _, _⟩ := (HG.out.res.set2 (.int .i64 X.2.1) (.int .i64 X.2.2)).two
      have HBZ := (HG.out.below.setCell (p := ⟨w.heap.size, 0, none⟩) (Nat.le_refl _) (.int .i64 X.2.1)).setCell (p := ⟨w.heap.size, 1, none⟩) (Nat.le_refl _) (.int .i64 X.2.2)
      refine bodyPost_ret (v := .agg #[.int .i64 X.2.1, .int .i64 X.2.2]) (by simp [results, Try.f69, go_sem, g0, g1]) rfl ?_
      exact ⟨s.er, s.fa, rfl, Box.below HH.out.cur HBZ, Spared.of_below _ HBZ, HN.out.below HBZ⟩
theorem ostep_get {lo r c n cap A D N : Nat} {a : Option Addr} {zs : List Int} {s : RS} {k : Int} {w : World} (H : PR lo w r c a n cap zs s) (hA : Box w A (.cells #[.pointer (some ⟨r, 0, none⟩)] 86)) (hD : Box w D (.cells #[.int .i64 k] 3)) (hN : Box w N (.cells #[.int .i64 0] 3)) (hDN : ¬ D = N) :
    Calls Try.prog 46 #[.pointer (some ⟨c, 0, none⟩), .func (.func 69) #[] #[.pointer (some ⟨A, 0, none⟩), .pointer (some ⟨D, 0, none⟩), .pointer (some ⟨N, 0, none⟩)]] w fun e w3 => ∃ (x y : Int), e = .returned (.agg #[.int .i64 x, .int .i64 y]) ∧ PR lo w3 r c a n cap zs (getR zs s k).2 ∧ Box w3 N (.cells #[.int .i64 ((getR zs s k).1 : Nat)] 3) ∧ Spared (fun k => k = c ∨ k = N) w w3 := by
  have hcN : ¬ c = N := fun e => Box.apart H.cur hN (by decide) e
  have hNl := hN.lt
  have hcl := H.cur.lt
  by_cases h0 : s.er = 0
  · have C := H.cur
    rw [h0] at C
    refine (ostep_on C 69 _ enter_oRGet1 (fun i => i = N) (fun i h => by omega) (fun x y sv' a' w2 => x = (getR zs s k).2.er ∧ y = (getR zs s k).2.fa ∧ sv' = .slice a n cap ∧ a' = (getR zs s k).2.at_ ∧ Box w2 N (.cells #[.int .i64 ((getR zs s k).1 : Nat)] 3)) (fun W hW _ => (orget1_any (H.below hW) (hA.below hW) (hD.below hW) (hN.below hW) h0 hDN _ rfl).mono ?_)).mono ?_
    · rintro e w2 ⟨er', fa', rfl, C2, S2, N2⟩
      exact ⟨_, _, _, _, er', fa', rfl, C2, S2, rfl, rfl, rfl, rfl, N2⟩
    · rintro e w3 ⟨x, y, sv', a', w2, rfl, ⟨rfl, rfl, rfl, rfl, N2⟩, C3, S3, S23⟩
      exact ⟨_, _, rfl, H.on hN (by decide) (fun _ e => by cases e) (H.ok.get k) C3 S3, N2.spared S23 (fun h => by omega), S3⟩
  · have hr : getR zs s k = (0, s) := if_neg h0
    rw [hr]
    refine (ostep_stays H.cur h0 69 _).mono ?_
    rintro e w' ⟨rfl, C', S'⟩
    have S2 : Spared (fun k => k = c ∨ k = N) w w' := S'.mono (fun _ _ h => .inl h)
    exact ⟨_, _, rfl, H.on hN (by decide) (fun _ e => by cases e) H.ok C' S2, hN.spared S' (fun h => hcN h.symm), S2⟩
set_option maxRecDepth 100000 in
set_option maxHeartbeats 4000000 in
theorem orget_any {lo r c n cap : Nat} {a : Option Addr} {zs : List Int} {s : RS} {k : Int} {w : World} (H : PR lo w r c a n cap zs s) :
    Calls Try.prog 59 #[.pointer (some ⟨r, 0, none⟩), .int .i64 k] w fun e w' => e = .returned (.int .i64 ((getR zs s k).1 : Nat)) ∧ PR lo w' r c a n cap zs (getR zs s k).2 ∧ Spared (fun k => k = c) w w' := by
  have hmf : ∀ (fn : Fn) (first cap : Array Value) (w : World), (Instr.makeFunc fn first cap).run Try.prog w = .ok (.func fn first cap) w := fun _ _ _ _ => rfl
  have B1 := below_new w (.cells #[.pointer (some ⟨r, 0, none⟩)] 86)
  have A1 := Box.new w (.cells #[.pointer (some ⟨r, 0, none⟩)] 86)
  have B2 := below_new (w.alloc (.cells #[.pointer (some ⟨r, 0, none⟩)] 86)) (.cells #[.int .i64 k] 3)
  have D2 := Box.put (w := w.alloc (.cells #[.pointer (some ⟨r, 0, none⟩)] 86)) (k := w.heap.size + 1) (.cells #[.int .i64 k] 3) (by simp)
  have A2 := A1.below B2
  have BB := B1.trans (B2.mono B1.size)
  have B3 := below_new ((w.alloc (.cells #[.pointer (some ⟨r, 0, none⟩)] 86)).alloc (.cells #[.int .i64 k] 3)) (.cells #[.int .i64 0] 3)
  have N3 := Box.put (w := (w.alloc (.cells #[.pointer (some ⟨r, 0, none⟩)] 86)).alloc (.cells #[.int .i64 k] 3)) (k := w.heap.size + 1 + 1) (.cells #[.int .i64 0] 3) (by simp)
  have B := BB.trans (B3.mono BB.size)
  have hno := ornone_no (Box.below H.rdr BB)
  have hst := ostep_get (H.below B) (A2.below B3) (D2.below B3) N3 (by omega)
  obtain ⟨a0, _⟩ := one_of A2
  obtain ⟨a1, _⟩ := one_of (A2.below B3)
  obtain ⟨r1, _⟩ := one_of (Box.below H.rdr B)
  have HB := hide B
  have hcl := H.cur.lt
  clear B1 A1 B2 D2 A2 BB B3 N3 B H
  obtain ⟨x, hx⟩ : ∃ x, getR zs s k = x := ⟨_, rfl⟩
  rw [hx] at hst ⊢
  clear hx
  go_enter Try.func59, Try.ntmps59
  go_wp2_with fail
  refine hno.mono ?_
  rintro e w1 ⟨rfl, rfl⟩
  clear hno
  go_wp2_with fail
  refine hst.mono ?_
  rintro e w3 ⟨X, Y, rfl, H3, N3, S3⟩
  obtain ⟨n0, _⟩ := one_of N3
  have HH := hide H3
  have HS : Hid (Spared (fun k => k = c) w w3) := (Spared.of_below _ HB.out).next S3 (fun i hi h => h.elim id (fun h => by omega))
  clear hst H3 N3 S3 HB a0 a1 r1
  go_wp2
  go_ret
  exact ⟨rfl, HH.out, HS.out⟩
theorem PR.base {base lo r c n cap : Nat} {a : Option Addr} {zs : List Int} {s : RS} {w A B : World} (P : PR lo A r c a n cap zs s) (hb : Below base w A) (S : Spared (fun k => k = c) A B) (hc : base ≤ c) : Below base w B :=
  hb.trans (S.to_below (Nat.le_trans hc (Nat.le_of_lt P.cur.lt)) (fun k hk => by omega))
theorem PR.aside {lo r c n cap F : Nat} {a : Option Addr} {zs : List Int} {s : RS} {cs : Array Value} {t : TypeId} {W W' : World} (H : PR lo W r c a n cap zs s) (hF : Box W F (.cells cs t (0, 0))) (ht1 : t ≠ 97) (ht2 : t ≠ 71) (hs : ∀ (i : Nat) (x : Int), cs[i]? ≠ some (.int .u8 x)) (S : Spared (fun q => q = F) W W') : PR lo W' r c a n cap zs s :=
  ⟨Box.spared H.rdr S (fun e => Box.apart hF H.rdr ht1 e.symm), Box.spared H.cur S (fun e => Box.apart hF H.cur ht2 e.symm), H.byt.keep S (fun hz g o e h => H.byt.off hF hs hz g o e h), H.ok, H.small⟩
theorem enter_pkgather1 (args : Array Value) (w : World) : (callFunc 60 args).run Try.prog w = .ok (.enter 60 args) w := by kernel_rfl
def gIf (K : Int) (x : List Int) (t : Bool) (s : RS) : Nat × RS := if t = true then getR x s K else (0, s)
set_option maxRecDepth 100000 in
set_option maxHeartbeats 1000000 in
theorem ptake_any {lo r c n cap A F o : Nat} {a : Option Addr} {x : List Int} {s : RS} {cs : Array Value} {W : World} (K : Int) (t : Bool) (P : PR lo W r c a n cap x s) (hA : Box W A (.cells #[.pointer (some ⟨r, 0, none⟩)] 86)) (hF : Box W F (.cells cs 24)) (hs : ∀ (i : Nat) (x : Int), cs[i]? ≠ some (.int .u8 x)) (hv : cs[o]? = some (.int .i64 0)) :
    Calls Try.prog 60 #[.pointer (some ⟨F, o, none⟩), .bool t, .int .i64 K, .pointer (some ⟨A, 0, none⟩)] W fun e w' => e = .returned (.tuple #[]) ∧ PR lo w' r c a n cap x (gIf K x t s).2 ∧ Box w' F (.cells (cs.setIfInBounds o (.int .i64 ((gIf K x t s).1 : Nat))) 24) ∧ Spared (fun q => q = c ∨ q = F) W w' := by
  cases t with
  | false =>
    have e : cs.setIfInBounds o (.int .i64 ((gIf K x false s).1 : Nat)) = cs := by
      refine Array.ext_getElem? fun j => ?_
      rw [Array.getElem?_setIfInBounds]
      split
      · rename_i h
        subst h
        split
        · exact hv.symm
        · rename_i h
          exact (Array.getElem?_eq_none (by omega)).symm
      · rfl
    rw [e]
    have HP := hide P
    have HF := hide hF
    clear P hF hA e hs hv
    go_enter Try.func60, Try.ntmps60
    go_wp2
    go_end0
    exact ⟨rfl, HP.out, HF.out, Spared.refl _ _⟩
  | true =>
    show Calls Try.prog 60 _ W fun e w' => e = .returned (.tuple #[]) ∧ PR lo w' r c a n cap x (getR x s K).2 ∧ Box w' F (.cells (cs.setIfInBounds o (.int .i64 ((getR x s K).1 : Nat))) 24) ∧ Spared (fun q => q = c ∨ q = F) W w'
    have hg := orget_any (k := K) P
    obtain ⟨a0, _⟩ := one_of hA
    have hcF : F ≠ c := Box.apart hF P.cur (by decide)
    have HF := hide hF
    have HS := hide hs
    obtain ⟨q, hq⟩ : ∃ q, getR x s K = q := ⟨_, rfl⟩
    rw [hq] at hg ⊢
    clear P hF hA hs hq
    go_enter Try.func60, Try.ntmps60
    go_wp2_with fail
    refine hg.mono ?_
    rintro e w1 ⟨rfl, P1, S1⟩
    have F1 := HF.out.spared S1 hcF
    have hc0 : w1.cell? ⟨F, o, none⟩ = some (.int .i64 0) := (cell_of_heap F1.what o).trans hv
    have hz0 : w1.frozen? ⟨F, o, none⟩ = false := frozen_of_heap F1.what o
    have S2 := (Spared.refl (fun q => q = F) w1).setCell (k := F) rfl o (.int .i64 (q.1 : Nat))
    have HP2 := hide (P1.aside F1 (by decide) (by decide) HS.out S2)
    have HF2 := hide (F1.put1 o (.int .i64 (q.1 : Nat)))
    have HS2 : Hid (Spared (fun q => q = c ∨ q = F) W (w1.setCell ⟨F, o, none⟩ (.int .i64 (q.1 : Nat)))) := (S1.mono (fun _ _ h => .inl h)).next S2 (fun _ _ h => .inr h)
    clear hg P1 S1 F1 S2 HF HS hcF a0
    go_wp2
    go_end0
    exact ⟨rfl, HP2.out, HF2.out, HS2.out⟩
theorem Box.lo {A B : World} {k lo : Nat} {o : Obj} (h : Box A k o) (hb : Below lo A B) (hk : k < lo) : Box B k o := ⟨Nat.lt_of_lt_of_le h.lt hb.size, (hb.block k hk).trans h.what⟩
end Go.Proofs.Ytedjicimgalneaa
namespace Go.Proofs.Ytedjicimgalneaa
open Go.RowKit
open Go.RowKit
open Go.RowKit
end Go.Proofs.Ytedjicimgalneaa
namespace Go.Proofs.Ytedjicimgalneaa
open Go.RowKit
def ownRel (lo n : Nat) (zs : List Int) : Yield := .rel (fun v W => ∃ a m c, m = n ∧ v = .slice a m c ∧ OwnB lo W v zs) (fun _ _ _ hb h => by
  obtain ⟨a, m, c, e0, e, O⟩ := h
  exact ⟨a, m, c, e0, e, O.below hb⟩)
def bytRelL (n : Nat) (zs : List Int) : Yield := .rel (fun v W => ∃ a m c, m = n ∧ v = .slice a m c ∧ Byt 0 W v zs) (fun _ _ _ hb h => by
  obtain ⟨a, m, c, e0, e, O⟩ := h
  exact ⟨a, m, c, e0, e, O.below hb⟩)
def sealL (zs : List Int) : List Int := zs ++ le4 (sumBy cT zs)
def putP (p : PV) : List Int × Int := if May p then (sealL (body p), 0) else ([], 2)
theorem putP_yes {p : PV} (h : May p) : putP p = (sealL (body p), 0) := if_pos h
theorem putP_no {p : PV} (h : ¬ May p) : putP p = ([], 2) := if_neg h
theorem sealL_length (zs : List Int) : (sealL zs).length = zs.length + 4 := by
  unfold sealL
  rw [List.length_append, le4_length]
theorem putP_size (p : PV) : (((putP p).1.length : Nat) : Int) = sizeP p := by
  unfold putP sizeP
  by_cases h : May p
  · rw [if_pos h, if_pos h]
    show ((sealL (body p)).length : Int) = _
    rw [sealL_length, body_length]
    rfl
  · rw [if_neg h, if_neg h]
    rfl
theorem PW.base {lo p c most n cap : Nat} {a : Option Addr} {s : List Int × Int} {w A B : World} (P : PW lo A p c most a n cap s) (hb : Below lo w A) (S : Spared (fun k => k = c ∨ rowOf a k) A B) (hc : lo ≤ c) : Below lo w B :=
  hb.trans (S.to_below P.lo_ (fun k hk => hk.elim (fun e => by omega) (fun e => (P.row e).1)))
def numAt (s b i : Int) : Nat → Int
  | 0 => s
  | 1 => b
  | _ => i
def accL (k s b i : Int) : Nat → List Int
  | 0 => be 1 k.toNat
  | j + 1 => accL k s b i j ++ be 4 (numAt s b i j).toNat
theorem accL_length (k s b i : Int) : ∀ j, (accL k s b i j).length = 1 + 4 * j
  | 0 => be_length _ _
  | j + 1 => by
    show (accL k s b i j ++ be 4 _).length = _
    rw [List.length_append, be_length, accL_length k s b i j]
    omega
theorem putW_fit {most : Nat} {zs : List Int} {k x : Int} {K : Nat} (hk : k = K) (hw : IsW k) (hf : Fits k x) (hl : zs.length + K ≤ most) : putW most (zs, 0) k x = (zs ++ be K x.toNat, 0) := by
  rw [putW_ok rfl hw hf]
  unfold rawW
  subst hk
  rw [if_pos rfl, if_neg (by rw [be_length]; dsimp only; omega), Int.toNat_natCast]
theorem rawW_fit {most : Nat} {zs ys : List Int} (hl : zs.length + ys.length ≤ most) : rawW most (zs, 0) ys = (zs ++ ys, 0) := by
  unfold rawW
  rw [if_pos rfl, if_neg (by dsimp only; omega)]
theorem three_fit {k s b i r : Int} {zs : List Int} (h : May ⟨k, s, b, i, r, zs⟩) : ∀ j : Nat, U4 (numAt s b i j) := by
  obtain ⟨h1, h2, h3, h4, h5, h6⟩ := h
  dsimp only at *
  intro j
  match j with
  | 0 => exact h2
  | 1 => show U4 b; rcases h3 with h | h <;> (have := h.2; unfold U4 at *; omega)
  | j + 2 => show U4 i; rcases h4 with h | h <;> (have := h.2; unfold U4 at *; omega)
theorem numAt_cell {W : World} {g : Nat} {s b i : Int} (h : Box W g (.cells #[.int .i64 s, .int .i64 b, .int .i64 i] 47)) (j : Nat) (hj : j < 3) : W.cell? ⟨g, j, none⟩ = some (.int .i64 (numAt s b i j)) := by
  have e := fun i => cell_of_heap h.what i
  have : j = 0 ∨ j = 1 ∨ j = 2 := by omega
  rcases this with rfl | rfl | rfl <;> exact (e _).trans rfl
theorem acc_body {k s b i r : Int} {zs : List Int} (h : May ⟨k, s, b, i, r, zs⟩) (N : Nat) (hN : nums k = N) : accL k s b i N ++ (if k = 4 then be 1 r.toNat else []) ++ zs = body ⟨k, s, b, i, r, zs⟩ := by
  have hk := may_kind h
  dsimp only at hk
  unfold nums at hN
  have : k = 1 ∨ k = 2 ∨ k = 3 ∨ k = 4 ∨ k = 5 := by omega
  rcases this with rfl | rfl | rfl | rfl | rfl
  · obtain rfl : N = 3 := by simp at hN; omega
    simp [accL, body, numAt]
  · obtain rfl : N = 2 := by simp at hN; omega
    simp [accL, body, numAt]
  · obtain rfl : N = 1 := by simp at hN; omega
    simp [accL, body, numAt]
  · obtain rfl : N = 1 := by simp at hN; omega
    simp [accL, body, numAt]
  · obtain rfl : N = 1 := by simp at hN; omega
    simp [accL, body, numAt]
theorem bodyLen_acc {k s b i r : Int} {zs : List Int} (h : May ⟨k, s, b, i, r, zs⟩) (N : Nat) (hN : nums k = N) : bodyLen ⟨k, s, b, i, r, zs⟩ = 1 + 4 * N + (if k = 4 then 1 else 0) + zs.length := by
  have h1 := bodyLen_nums ⟨k, s, b, i, r, zs⟩ (may_kind h)
  dsimp only at h1
  rw [hN] at h1
  by_cases h4 : k = 4
  · rw [if_pos h4] at h1 ⊢
    omega
  · rw [if_neg h4] at h1 ⊢
    omega
set_option maxRecDepth 100000 in
set_option maxHeartbeats 4000000 in
theorem pput_no (k s b i r : Int) (a : Option Addr) (n c : Nat) (zs : List Int) (hn : zs.length = n) (hM : ¬ May ⟨k, s, b, i, r, zs⟩) (w : World) :
    Calls Try.prog 11 #[.agg #[.int .i64 k, .int .i64 s, .int .i64 b, .int .i64 i, .int .i64 r, .slice a n c]] w (OpSaid [] 2 w) := by
  have hc := pcheck_any k s b i r a n c zs hn (w.alloc (.cells #[.int .i64 k, .int .i64 s, .int .i64 b, .int .i64 i, .int .i64 r, .slice a n c] 24))
  have HB := hide (below_new w (.cells #[.int .i64 k, .int .i64 s, .int .i64 b, .int .i64 i, .int .i64 r, .slice a n c] 24))
  rw [checkP_no hM] at hc
  clear hM hn
  go_enter Try.func11, Try.ntmps11
  go_wp2_with fail
  refine hc.mono ?_
  rintro e w1 ⟨rfl, b1⟩
  have HB1 := hide (HB.out.trans (b1.mono HB.out.size))
  clear hc b1
  go_wp2
  refine bodyPost_ret (v := .tuple #[.slice none 0 0, .int .i64 2]) (by simp [results, Try.f11, go_sem]) rfl ?_
  exact opsaid_none rfl HB1.out
set_option maxRecDepth 100000 in
set_option maxHeartbeats 800000 in
theorem pput_yes (k s b i r : Int) (a : Option Addr) (n c : Nat) (zs : List Int) (w : World) (X : Byt 0 w (.slice a n c) zs) (hM : May ⟨k, s, b, i, r, zs⟩) :
    Calls Try.prog 11 #[.agg #[.int .i64 k, .int .i64 s, .int .i64 b, .int .i64 i, .int .i64 r, .slice a n c]] w (OpSaid (sealL (body ⟨k, s, b, i, r, zs⟩)) 0 w) := by
  have hn := X.len.1.symm
  have hnl := may_len hM
  rw [hn] at hnl
  have hc := pcheck_any k s b i r a n c zs hn (w.alloc (.cells #[.int .i64 k, .int .i64 s, .int .i64 b, .int .i64 i, .int .i64 r, .slice a n c] 24))
  have HB := hide (below_new w (.cells #[.int .i64 k, .int .i64 s, .int .i64 b, .int .i64 i, .int .i64 r, .slice a n c] 24))
  have HR := hide (Box.new w (.cells #[.int .i64 k, .int .i64 s, .int .i64 b, .int .i64 i, .int .i64 r, .slice a n c] 24))
  rw [checkP_yes hM] at hc
  have HX := hide X
  have HM := hide hM
  have HNL := hide hn
  obtain ⟨N, hN⟩ : ∃ N : Nat, nums k = N := ⟨(nums k).toNat, by have := nums_le k; omega⟩
  have hN3 : N ≤ 3 := by have := nums_le k; omega
  have HP := fun W => pparts_any k W
  unfold partsV at HP
  rw [hN] at HP
  have HN := hide hN
  obtain ⟨R, hR⟩ : ∃ R, decide (k = 4) = R := ⟨_, rfl⟩
  obtain ⟨D, hD⟩ : ∃ D, decide (k = 1 ∨ k = 5) = D := ⟨_, rfl⟩
  rw [hR, hD] at HP
  have HRR := hide hR
  have HPP := hide HP
  clear X hM hn hN hR hD HP
  go_enter Try.func11, Try.ntmps11
  go_wp2_with fail
  refine hc.mono ?_
  rintro e w1 ⟨rfl, b1⟩
  have HB1 := hide (HB.out.trans (b1.mono HB.out.size))
  have HR1 := hide (HR.out.below b1)
  clear hc b1 HB HR
  go_wp2_with fail
  refine wp_yields 7 [.is (.pointer (some ⟨w.heap.size, 0, none⟩)), .is (.int .i64 k), .is (.agg #[.int .i64 (N : Nat), .bool R, .bool D]), .is (.agg #[.int .i64 k, .int .i64 s, .int .i64 b, .int .i64 i, .int .i64 r, .slice a n c]), .is (.agg #[.int .i64 s, .int .i64 b, .int .i64 i]), .new w1.heap.size (.cells #[.int .i64 0, .bool false, .bool false] 45), .new w1.heap.size (.cells #[.int .i64 0, .int .i64 0, .int .i64 0] 47)] (by kernel_rfl) (by kernel_rfl) (lt_cons ?_ (lt_cons ?_ (lt_cons ?_ (lt_cons ?_ (lt_cons ?_ (lt_cons ?_ (lt_cons ?_ (lt_nil)))))))) ?_
  case refine_1 =>
    refine OpDoes.mk rfl ?_
    intro vs V hV hd K hK
    simp only [laidIn, lz1, lz2, lz3, lz4, lz5, lz6, if_true, Act.put, lz7, lz8, lz9] at hK ⊢
    go_simp
    exact hK.out _ _ (below_new _ _) ⟨_, rfl, Box.new V _, hV.size⟩ (fresh_apart _ _ (fresh_new V))
  case refine_2 =>
    refine OpDoes.mk rfl ?_
    intro vs V hV hd K hK
    simp only [laidIn, lz1, lz2, lz3, lz4, lz5, lz6, if_true, Act.put, lz7, lz8, lz9] at hK ⊢
    go_simp
    exact hK.out _ _ (below_new _ _) ⟨_, rfl, Box.new V _, hV.size⟩ (fresh_apart _ _ (fresh_new V))
  case refine_3 =>
    refine OpDoes.mk rfl ?_
    intro vs V hV hd K hK
    have d3 : vs 3 = .agg #[.int .i64 k, .int .i64 s, .int .i64 b, .int .i64 i, .int .i64 r, .slice a n c] := hd 3 (by decide) (by kernel_rfl)
    simp only [laidIn, lz1, lz2, lz3, lz4, lz5, lz6, if_true, Act.put, lz7, lz8, lz9] at hK ⊢
    simp only [d3] at hK ⊢
    have hnu := pnumbers_any k s b i r (.slice a n c) V ⟨_, _, _, rfl⟩
    go_simp
    go_at_call 29
    refine hnu.mono ?_
    rintro e V' ⟨rfl, hb⟩
    exact hK.out _ _ hb rfl (not_fresh rfl)
  case refine_4 =>
    refine OpDoes.mk rfl ?_
    intro vs V hV hd K hK
    simp only [laidIn, lz1, lz2, lz3, lz4, lz5, lz6, if_true, Act.put, lz7, lz8, lz9] at hK ⊢
    obtain ⟨k0, k1, k2, k3, k4, k5⟩ := six_of (HR1.out.drew.below hV)
    go_simp
    exact hK.out _ _ (Below.refl _ _) rfl (not_fresh rfl)
  case refine_5 =>
    refine OpDoes.mk rfl ?_
    intro vs V hV hd K hK
    have d1 : vs 1 = .int .i64 k := hd 1 (by decide) (by kernel_rfl)
    simp only [laidIn, lz1, lz2, lz3, lz4, lz5, lz6, if_true, Act.put, lz7, lz8, lz9] at hK ⊢
    simp only [d1] at hK ⊢
    have hp := HPP.out V
    go_simp
    go_at_call 28
    refine hp.mono ?_
    rintro e V' ⟨rfl, hb⟩
    exact hK.out _ _ hb rfl (not_fresh rfl)
  case refine_6 =>
    refine OpDoes.mk rfl ?_
    intro vs V hV hd K hK
    have d0 : vs 0 = .pointer (some ⟨w.heap.size, 0, none⟩) := hd 0 (by decide) (by kernel_rfl)
    simp only [laidIn, lz1, lz2, lz3, lz4, lz5, lz6, if_true, Act.put, lz7, lz8, lz9] at hK ⊢
    simp only [d0] at hK ⊢
    obtain ⟨k0, _, _, _, _, _⟩ := six_of (HR1.out.drew.below hV)
    go_simp
    exact hK.out _ _ (Below.refl _ _) rfl (not_fresh rfl)
  case refine_7 =>
    refine OpDoes.mk rfl ?_
    intro vs V hV hd K hK
    simp only [laidIn, lz1, lz2, lz4, lz5, lz6, if_true, Act.put, lz7, lz8, lz9] at hK ⊢
    go_simp
    exact hK.out _ _ (Below.refl _ _) rfl (not_fresh rfl)
  case refine_8 =>
    intro vs W1 hV hR1 hne fuel
    have d0 : vs 0 = .pointer (some ⟨w.heap.size, 0, none⟩) := hR1 0 (by decide)
    have d1 : vs 1 = .int .i64 k := hR1 1 (by decide)
    have d2 : vs 2 = .agg #[.int .i64 (N : Nat), .bool R, .bool D] := hR1 2 (by decide)
    have d3 : vs 3 = .agg #[.int .i64 k, .int .i64 s, .int .i64 b, .int .i64 i, .int .i64 r, .slice a n c] := hR1 3 (by decide)
    have d4 : vs 4 = .agg #[.int .i64 s, .int .i64 b, .int .i64 i] := hR1 4 (by decide)
    obtain ⟨g5, d5, G5, hg5⟩ : ∃ g, vs 5 = .pointer (some ⟨g, 0, none⟩) ∧ Box W1 g (.cells #[.int .i64 0, .bool false, .bool false] 45) ∧ w1.heap.size ≤ g := hR1 5 (by decide)
    obtain ⟨g6, d6, G6, hg6⟩ : ∃ g, vs 6 = .pointer (some ⟨g, 0, none⟩) ∧ Box W1 g (.cells #[.int .i64 0, .int .i64 0, .int .i64 0] 47) ∧ w1.heap.size ≤ g := hR1 6 (by decide)
    have h56 : g5 ≠ g6 := Box.apart G5 G6 (by decide)
    simp only [laidIn, lz4, lz5, lz6, if_true, Act.put, lz7, lz8, lz9]
    simp only [d0, d1, d2, d3, d4, d5, d6]
    clear hR1 hne d0 d1 d2 d3 d4 d5 d6
    clear vs
    have hV1 : Below w1.heap.size w1 W1 := ((Below.refl _ w1).drew).trans hV
    have hR1 := HR1.out.below hV1
    have hr5 : w.heap.size ≠ g5 := by have := HR1.out.lt; omega
    have hr6 : w.heap.size ≠ g6 := by have := HR1.out.lt; omega
    have hw5 : w.heap.size ≤ g5 := by have := HR1.out.lt; omega
    have hw6 : w.heap.size ≤ g6 := by have := HR1.out.lt; omega
    show wpAny _ _ _ _ (fuel + 2) _ _ _
    refine wpAny_all (rs := [7]) (by kernel_rfl) (by simp) (fun q hq => ?_)
    obtain rfl : q = 7 := by simpa using hq
    clear hq
    refine wpOp_step rfl (fun K hK => ?_)
    rw [if_pos (by rfl)]
    refine wp_store_row _ _ _ rfl g5 #[.int .i64 (N : Nat), .bool R, .bool D] rfl rfl 45 _ G5.what (by kernel_rfl) rfl (by kernel_rfl) ?_
    refine hK _ _ ?_
    clear hK
    have A5 := Box.setRow #[.int .i64 (N : Nat), .bool R, .bool D] G5
    have A6 := Box.row_other G6 (fun e => h56 e.symm) #[.int .i64 (N : Nat), .bool R, .bool D]
    have AR := Box.row_other hR1 hr5 #[.int .i64 (N : Nat), .bool R, .bool D]
    refine wpAny_all (rs := [8]) (by kernel_rfl) (by simp) (fun q hq => ?_)
    obtain rfl : q = 8 := by simpa using hq
    clear hq
    refine wpOp_step rfl (fun K hK => ?_)
    rw [if_pos (by rfl)]
    refine wp_store_row _ _ _ rfl g6 #[.int .i64 s, .int .i64 b, .int .i64 i] rfl rfl 47 _ A6.what (by kernel_rfl) rfl (by kernel_rfl) ?_
    refine hK _ _ ?_
    clear hK
    have C6 := Box.setRow #[.int .i64 s, .int .i64 b, .int .i64 i] A6
    have C5 := Box.row_other A5 h56 #[.int .i64 s, .int .i64 b, .int .i64 i]
    have CR := Box.row_other AR hr6 #[.int .i64 s, .int .i64 b, .int .i64 i]
    have HB2 := hide (below_setRow (below_setRow (HB1.out.trans (hV1.mono HB1.out.size)) hw5 #[.int .i64 (N : Nat), .bool R, .bool D]) hw6 #[.int .i64 s, .int .i64 b, .int .i64 i])
    obtain ⟨V, hVV⟩ : ∃ V, (W1.setRow g5 #[.int .i64 (N : Nat), .bool R, .bool D]).setRow g6 #[.int .i64 s, .int .i64 b, .int .i64 i] = V := ⟨_, rfl⟩
    rw [hVV] at C6 C5 CR HB2 ⊢
    have HC6 := hide C6
    have HC5 := hide C5
    have HCR := hide CR
    clear A5 A6 AR C6 C5 CR hVV hV hV1 hR1 G5 G6 hg5 hg6 h56 hr5 hr6 hw5 hw6 HB1 HR1 HPP
    clear W1
    refine wpAny_done (by kernel_rfl) ?_ _
    have hLe : bodyLen ⟨k, s, b, i, r, zs⟩ = 1 + 4 * N + (if k = 4 then 1 else 0) + n := by rw [bodyLen_acc HM.out N HN.out, HNL.out]
    have hz := psize_yes k s b i r a n c zs HNL.out HM.out V
    obtain ⟨L, hL⟩ : ∃ L, bodyLen ⟨k, s, b, i, r, zs⟩ = L := ⟨_, rfl⟩
    rw [hL] at hz hLe
    have hLm : L ≤ 100000 := by split at hLe <;> omega
    have hLi : (L : Int) ≤ 100000 := by omega
    have HL := hide hLe
    have HLM := hide hLm
    obtain ⟨k0, k1, k2, k3, k4, k5⟩ := six_of HCR.out
    clear hLe hL hLm
    go_wp2_with fail
    refine hz.mono ?_
    rintro e w4 ⟨rfl, b4⟩
    have HB4 := hide (HB2.out.trans (b4.mono HB2.out.size))
    have HA5 := hide (HC5.out.below b4)
    have HA6 := hide (HC6.out.below b4)
    have HAR := hide (HCR.out.below b4)
    clear hz b4 HB2 HC5 HC6 HCR k0 k1 k2 k3 k4 k5
    have hnw := onew_yes L HLM.out w4
    go_wp2_with fail
    refine hnw.mono ?_
    rintro e w5 ⟨p, cc, rfl, P5, hp5, hc5, b5⟩
    have HCC := hide hc5
    have hput := oput_any (k := 1) (x := k) P5 (by have := (may_kind HM.out).2; dsimp only at this; omega)
    rw [show putW L ([], 0) 1 k = (accL k s b i 0, 0) from putW_fit (K := 1) rfl (.inl rfl) (by have := may_kind HM.out; dsimp only at this; exact (fits_1 k).2 (by omega)) (by have := HL.out; simp; omega)] at hput
    have HBP5 := hide (show ∀ W, Spared (fun q => q = cc ∨ rowOf none q) w5 W → Below w4.heap.size w4 W from fun W S => P5.base b5 S HCC.out)
    obtain ⟨k0, _, _, _, _, _⟩ := six_of (HAR.out.below b5)
    clear hnw P5 hp5 hc5 b5
    go_wp2_with fail
    refine hput.mono ?_
    rintro e w6 ⟨a6, n6, c6, rfl, P6, S6, T6⟩
    have B6 := HBP5.out _ S6
    obtain ⟨l0, _, _, _, _, _⟩ := three_of (HA5.out.below B6)
    have HP6 := hide P6
    have HB6 := hide B6
    clear hput P6 S6 T6 B6 HBP5 k0
    have hN3i : (N : Int) ≤ 3 := by omega
    go_wp2
    go_loopw [9, 35] (fun _ u wr => ∃ (j : Nat) (a' : Option Addr) (n' cap' : Nat), j ≤ N ∧ u = .int .i64 j ∧ Hid (PW w4.heap.size wr p cc L a' n' cap' (accL k s b i j, 0)) ∧ Hid (Below w4.heap.size w4 wr)) (fun _ u _ => N - (intOf u).toNat)
    case atStart => exact ⟨0, _, _, _, Nat.zero_le _, rfl, HP6, HB6⟩
    case round =>
      obtain ⟨j, a7, n7, c7, hj, rfl, HPJ, HBJ⟩ := hrel
      clear HP6 HB6 l0
      by_cases hjN : j < N
      · have hji : (j : Int) < (N : Int) := by omega
        have hj3 : j < 3 := by omega
        have hx := three_fit HM.out j
        have hcell := numAt_cell (HA6.out.below HBJ.out) j hj3
        have hput := oput_any (k := 4) (x := numAt s b i j) HPJ.out (by have := hx.2; omega)
        rw [show putW L (accL k s b i j, 0) 4 (numAt s b i j) = (accL k s b i (j + 1), 0) from putW_fit (K := 4) rfl (.inr (.inr (.inl rfl))) ((fits_4 _).2 ⟨hx.1, by have := hx.2; omega⟩) (by rw [accL_length]; have := HL.out; split at this <;> omega)] at hput
        have HBPJ := hide (show ∀ W, Spared (fun q => q = cc ∨ rowOf a7 q) wr W → Below w4.heap.size w4 W from fun W S => HPJ.out.base HBJ.out S HCC.out)
        have HJN := hide hjN
        clear hx hjN HPJ HBJ
        obtain ⟨x, hxe⟩ : ∃ x, numAt s b i j = x := ⟨_, rfl⟩
        rw [hxe] at hcell hput
        clear hxe
        go_wp2_with fail
        refine hput.mono ?_
        rintro e w8 ⟨a8, n8, c8, rfl, P8, S8, T8⟩
        have HP8 := hide P8
        have HB8 := hide (HBPJ.out _ S8)
        clear hput P8 S8 T8 HBPJ hcell
        go_wp2
        exact ⟨⟨j + 1, _, _, _, HJN.out, by go_num, HP8, HB8⟩, by have := HJN.out; simp [intOf]; omega⟩
      · obtain rfl : j = N := by omega
        have hji : ¬ (j : Int) < (j : Int) := by omega
        clear hjN hj
        have hacc := acc_body HM.out j HN.out
        obtain ⟨_, l1, _, _, _, _⟩ := three_of (HA5.out.below HBJ.out)
        obtain ⟨_, _, _, _, l4, l5⟩ := six_of (HAR.out.below HBJ.out)
        cases R with
        | true =>
          have hk4 := of_decide_eq_true HRR.out
          have hr15 : 1 ≤ r ∧ r ≤ 15 := by
            rcases HM.out.2.2.2.2.1 with h | h
            · exact h.2
            · exact absurd hk4 h.1
          rw [if_pos hk4] at hacc
          have hput := oput_any (k := 1) (x := r) HPJ.out (by omega)
          rw [show putW L (accL k s b i j, 0) 1 r = (accL k s b i j ++ be 1 r.toNat, 0) from putW_fit (K := 1) rfl (.inl rfl) ((fits_1 _).2 (by omega)) (by rw [accL_length]; have := HL.out; rw [if_pos hk4] at this; omega)] at hput
          have HBPJ := hide (show ∀ W, Spared (fun q => q = cc ∨ rowOf a7 q) wr W → Below w4.heap.size w4 W from fun W S => HPJ.out.base HBJ.out S HCC.out)
          have HACC := hide hacc
          have HK4 := hide hk4
          clear hacc hk4 hr15 HPJ HBJ
          go_wp2_with fail
          refine hput.mono ?_
          rintro e w8 ⟨a8, n8, c8, rfl, P8, S8, T8⟩
          have B8 := HBPJ.out _ S8
          obtain ⟨_, _, _, _, _, m5⟩ := six_of (HAR.out.below B8)
          have hraw := oraw_any P8 (HX.out.below (HB4.out.trans (B8.mono HB4.out.size)))
          rw [rawW_fit (by rw [List.length_append, accL_length, be_length, HNL.out]; have := HL.out; rw [if_pos HK4.out] at this; omega), HACC.out] at hraw
          have HBP8 := hide (show ∀ W, Spared (fun q => q = cc ∨ rowOf a8 q) w8 W → Below w4.heap.size w4 W from fun W S => P8.base B8 S HCC.out)
          clear hput P8 S8 T8 B8 HBPJ l1 l4 l5
          go_wp2_with fail
          refine hraw.mono ?_
          rintro e w9 ⟨a9, n9, c9, rfl, P9, S9, T9⟩
          have HB9 := hide (HB4.out.trans ((HBP8.out _ S9).mono HB4.out.size))
          have hby := obytes_any P9
          rw [show tells (body ⟨k, s, b, i, r, zs⟩, (0 : Int)) = body ⟨k, s, b, i, r, zs⟩ from if_pos rfl] at hby
          have hlen : (body ⟨k, s, b, i, r, zs⟩).length ≤ 100000 := by
            rw [body_length, bodyLen_acc HM.out j HN.out, HNL.out, ← HL.out]
            exact HLM.out
          have HLEN := hide hlen
          clear hraw P9 S9 T9 HBP8 m5 hlen
          go_wp2_with fail
          refine hby.mono ?_
          rintro e wA ⟨aA, nA, cA, rfl, YA, bA⟩
          have hse := cseal_any (PT.nil wA) nums_cT YA (by have := YA.len.1; have := HLEN.out; omega)
          have HBA := hide (HB9.out.trans (bA.mono HB9.out.size))
          clear hby YA bA HB9
          go_wp2_with fail
          refine hse.mono ?_
          rintro e wB ⟨aB, cB, rfl, YB, bB⟩
          have HY := hide (YB.mono HBA.out.size)
          have HBB := hide (HBA.out.trans (bB.mono HBA.out.size))
          clear hse YB bB
          go_wp2
          refine bodyPost_ret (v := .tuple #[.slice aB (nA + 4) cB, .int .i64 0]) (by simp [results, Try.f11, go_sem]) rfl ?_
          exact ⟨aB, nA + 4, cB, rfl, HY.out, HBB.out⟩
        | false =>
          have hk4 := of_decide_eq_false HRR.out
          rw [if_neg hk4, List.append_nil] at hacc
          have hraw := oraw_any HPJ.out (HX.out.below (HB4.out.trans (HBJ.out.mono HB4.out.size)))
          rw [rawW_fit (by rw [accL_length, HNL.out]; have := HL.out; rw [if_neg hk4] at this; omega), hacc] at hraw
          have HBP8 := hide (show ∀ W, Spared (fun q => q = cc ∨ rowOf a7 q) wr W → Below w4.heap.size w4 W from fun W S => HPJ.out.base HBJ.out S HCC.out)
          clear hacc hk4 HPJ HBJ
          go_wp2_with fail
          refine hraw.mono ?_
          rintro e w9 ⟨a9, n9, c9, rfl, P9, S9, T9⟩
          have HB9 := hide (HB4.out.trans ((HBP8.out _ S9).mono HB4.out.size))
          have hby := obytes_any P9
          rw [show tells (body ⟨k, s, b, i, r, zs⟩, (0 : Int)) = body ⟨k, s, b, i, r, zs⟩ from if_pos rfl] at hby
          have hlen : (body ⟨k, s, b, i, r, zs⟩).length ≤ 100000 := by
            rw [body_length, bodyLen_acc HM.out j HN.out, HNL.out, ← HL.out]
            exact HLM.out
          have HLEN := hide hlen
          clear hraw P9 S9 T9 HBP8 l1 l4 l5 hlen
          go_wp2_with fail
          refine hby.mono ?_
          rintro e wA ⟨aA, nA, cA, rfl, YA, bA⟩
          have hse := cseal_any (PT.nil wA) nums_cT YA (by have := YA.len.1; have := HLEN.out; omega)
          have HBA := hide (HB9.out.trans (bA.mono HB9.out.size))
          clear hby YA bA HB9
          go_wp2_with fail
          refine hse.mono ?_
          rintro e wB ⟨aB, cB, rfl, YB, bB⟩
          have HY := hide (YB.mono HBA.out.size)
          have HBB := hide (HBA.out.trans (bB.mono HBA.out.size))
          clear hse YB bB
          go_wp2
          refine bodyPost_ret (v := .tuple #[.slice aB (nA + 4) cB, .int .i64 0]) (by simp [results, Try.f11, go_sem]) rfl ?_
          exact ⟨aB, nA + 4, cB, rfl, HY.out, HBB.out⟩
theorem pput_any (k s b i r : Int) (a : Option Addr) (n c : Nat) (zs : List Int) (w : World) (X : Byt 0 w (.slice a n c) zs) :
    Calls Try.prog 11 #[.agg #[.int .i64 k, .int .i64 s, .int .i64 b, .int .i64 i, .int .i64 r, .slice a n c]] w (OpSaid (putP ⟨k, s, b, i, r, zs⟩).1 (putP ⟨k, s, b, i, r, zs⟩).2 w) := by
  by_cases h : May ⟨k, s, b, i, r, zs⟩
  · rw [putP_yes h]
    exact pput_yes k s b i r a n c zs w X h
  · rw [putP_no h]
    exact pput_no k s b i r a n c zs X.len.1.symm h w
end Go.Proofs.Ytedjicimgalneaa
