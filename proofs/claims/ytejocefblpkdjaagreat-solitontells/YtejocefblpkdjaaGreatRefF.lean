/-
  The walk of the document's Down.
-/
import Derived.Test.YtejocefblpkdjaaGreatJRefA
import Derived.Test.YtejocefblpkdjaaGreatJDown
namespace Go.Proofs.YtejocefblpkdjaaGreat
open Go.RowKit

set_option maxRecDepth 100000 in
set_option maxHeartbeats 4000000 in
/-- The document's Down. -/
theorem rdown_yes {lo : Nat} {a : Option Addr} {cap : Nat} {xs : List Int} {w : World} (h : Seg lo w (.slice a xs.length cap) xs) (hl : xs.length ≤ 10000) (bits : Nat) (hbits : bits ≤ 16777216) :
    Calls Tryz.prog 126 #[.slice a xs.length cap, .int .i64 bits] w fun e w' => ∃ (a' : Option Addr) (cap' : Nat) (us : List Int), e = .returned (.tuple #[.slice a' us.length cap', .int .i64 0]) ∧ Seg w.heap.size w' (.slice a' us.length cap') us ∧ Norm us ∧ val us = val xs / 2 ^ bits ∧ us.length ≤ xs.length ∧ Below w.heap.size w w' := by
  obtain ⟨q, r, hr, rfl⟩ : ∃ q r, r < 64 ∧ bits = 64 * q + r := ⟨bits / 64, bits % 64, by omega, by omega⟩
  have hq1 : (64 * (q : Int) + (r : Int)) / 64 = q := by omega
  have hq2 : (64 * (q : Int) + (r : Int)) % 64 = r := by omega
  have hmv := moved_any ((64 * q + r : Nat) : Int) w
  rw [decide_eq_true (show 0 ≤ ((64 * q + r : Nat) : Int) ∧ ((64 * q + r : Nat) : Int) ≤ 16777216 by omega)] at hmv
  obtain ⟨n, hn⟩ : ∃ n, xs.length = n := ⟨_, rfl⟩
  have HN := hide hn
  have hwx := h.words
  rw [hn] at h hl ⊢
  clear hn
  go_enter Tryz.func126, Tryz.ntmps126
  go_wp2_with fail
  refine hmv.mono ?_
  rintro e w0 ⟨rfl, hw0⟩
  subst w0
  clear hmv
  go_wp2
  by_cases hr0 : r = 0
  · have hrb : ¬ (0 : Int) < (r : Int) := by omega
    have HR := hide hr0
    clear hr0
    simp only [hq1, hq2]
    go_loopw [6, 8] (fun out i wr => ∃ (k : Nat) (us : List Int), q + k ≤ max n q ∧ i = .int .i64 ((q + k : Nat) : Int) ∧ Hid (us.length = k) ∧ Own w.heap.size wr out us ∧ Hid (∀ j, j < k → us[j]?.getD 0 = xs[q + j]?.getD 0 / 2 ^ r + (xs[q + j + 1]?.getD 0 % 2 ^ r) * 2 ^ (64 - r)) ∧ Below w.heap.size w wr) (fun _ i _ => n - (intOf i).toNat)
    case atStart => exact ⟨0, [], by omega, rfl, rfl, own_nil _ _, fun j hj => by omega, Below.refl _ _⟩
    case round =>
      obtain ⟨k, us, hk, rfl, HL, hown, HE, hbr⟩ := hrel
      obtain ⟨ao, co, rfl, hso⟩ := own_seg hown
      have HOO := hide hown
      have HSO := hide hso
      clear hown hso
      rw [HL.out]
      obtain ⟨c, hc⟩ : ∃ c, q + k = c := ⟨_, rfl⟩
      have HC := hide hc
      rw [hc] at hk ⊢
      clear hc
      by_cases hcn : c < n
      · have hki : (c : Int) < (n : Int) := by omega
        have hsa := h.below hbr
        obtain ⟨pb, po, rfl, _, _⟩ := hsa.row (by omega)
        have hcx := (hsa.cell (j := c) hcn).1
        have hd := rdigit_any hsa (c + 1)
        rw [show ((c + 1 : Nat) : Int) = (c : Int) + 1 by omega] at hd
        have hx := hwx.getD c
        have hy := hwx.getD (c + 1)
        have hdw := down_word (xs[c]?.getD 0) (xs[c + 1]?.getD 0) r hr hx hy.1
        have HXY : Hid (xs[q + k]?.getD 0 / 2 ^ r + (xs[q + k + 1]?.getD 0 % 2 ^ r) * 2 ^ (64 - r) = xs[c]?.getD 0 / 2 ^ r + (xs[c + 1]?.getD 0 % 2 ^ r) * 2 ^ (64 - r)) := by rw [Hid, HC.out]
        generalize hX : xs[c]?.getD 0 = x at *
        generalize hY : xs[c + 1]?.getD 0 = y at *
        clear hX hY
        obtain ⟨u, hu⟩ : ∃ u, u = x / 2 ^ r + (y % 2 ^ r) * 2 ^ (64 - r) := ⟨_, rfl⟩
        have huw : 0 ≤ u ∧ u < 18446744073709551616 := by rw [hu]; exact hdw.2
        have hub : x / 2 ^ r = u := by
          have e1 : y % 2 ^ r = 0 := by rw [HR.out]; exact Int.emod_one y
          rw [hu, e1]; omega
        have HU := hide hu
        clear hdw
        obtain ⟨a', cap', w', hap, hown', hbw'⟩ := own_append HOO.out u huw (by rw [HL.out]; have := HC.out; omega) hbr.size
        rw [HL.out] at hap hown'
        have HAP := hide hap
        have HW := hide hown'
        have HB := hide hbw'
        have hi3 : (0 : Int) ≤ 64 - (r : Int) := by omega
        clear hap hown' hbw' hu
        go_wp2_with (at_builtin; refine Lib.wpList_append_run _ rfl _ _ _ _ rfl _ _ rfl rfl _ _ HAP.out ?_)
        refine ⟨⟨k + 1, us ++ [u], by have := HC.out; omega, by have := HC.out; go_num, by have := HL.out; rw [Hid]; simp; omega, HW.out, fun j hj => ?_, hbr.trans HB.out⟩, by simp [intOf]; omega⟩
        by_cases e : j = k
        · subst e
          rw [HXY.out, ← HU.out, ← HL.out]; simp
        · rw [List.getElem?_append_left (by rw [HL.out]; omega)]; exact HE.out j (by omega)
      · have hki : ¬ (c : Int) < (n : Int) := by omega
        have HF : Hid (val us = val xs / 2 ^ (64 * q + r)) := by
          have e1 := down_val hr (ys := xs.drop q) (ss := us) (hwx.drop q) (by rw [HL.out, List.length_drop, HN.out]; have := HC.out; omega) (fun j hj => by
            rw [List.length_drop, HN.out] at hj
            rw [List.getElem?_drop, List.getElem?_drop, ← Nat.add_assoc]
            exact HE.out j (by have := HC.out; omega))
          have p := pw_pos q
          rw [Hid, e1, val_drop_div hwx, Int.ediv_ediv_of_nonneg (by omega), pw_bits]
        have HKN : Hid (k ≤ n) := by have := HC.out; rw [Hid]; omega
        have ht := rtrim_any HSO.out (by rw [HL.out]; have := HKN.out; omega)
        rw [HL.out] at ht
        go_wp2_with fail
        refine ht.mono ?_
        rintro e w4 ⟨a4, cap4, zs, rfl, hs4, hn4, hv4, hl4, hb4⟩
        have HV : Hid (val zs = val xs / 2 ^ (64 * q + r)) := by rw [Hid, hv4]; exact HF.out
        clear hv4
        go_wp2
        go_ret2
        exact ⟨_, _, zs, rfl, hs4.mono hbr.size, hn4, HV.out, by have := HKN.out; omega, hbr.trans (hb4.mono hbr.size)⟩
  · have hrb : (0 : Int) < (r : Int) := by omega
    simp only [hq1, hq2]
    go_loopw [6, 8] (fun out i wr => ∃ (k : Nat) (us : List Int), q + k ≤ max n q ∧ i = .int .i64 ((q + k : Nat) : Int) ∧ Hid (us.length = k) ∧ Own w.heap.size wr out us ∧ Hid (∀ j, j < k → us[j]?.getD 0 = xs[q + j]?.getD 0 / 2 ^ r + (xs[q + j + 1]?.getD 0 % 2 ^ r) * 2 ^ (64 - r)) ∧ Below w.heap.size w wr) (fun _ i _ => n - (intOf i).toNat)
    case atStart => exact ⟨0, [], by omega, rfl, rfl, own_nil _ _, fun j hj => by omega, Below.refl _ _⟩
    case round =>
      obtain ⟨k, us, hk, rfl, HL, hown, HE, hbr⟩ := hrel
      obtain ⟨ao, co, rfl, hso⟩ := own_seg hown
      have HOO := hide hown
      have HSO := hide hso
      clear hown hso
      rw [HL.out]
      obtain ⟨c, hc⟩ : ∃ c, q + k = c := ⟨_, rfl⟩
      have HC := hide hc
      rw [hc] at hk ⊢
      clear hc
      by_cases hcn : c < n
      · have hki : (c : Int) < (n : Int) := by omega
        have hsa := h.below hbr
        obtain ⟨pb, po, rfl, _, _⟩ := hsa.row (by omega)
        have hcx := (hsa.cell (j := c) hcn).1
        have hd := rdigit_any hsa (c + 1)
        rw [show ((c + 1 : Nat) : Int) = (c : Int) + 1 by omega] at hd
        have hx := hwx.getD c
        have hy := hwx.getD (c + 1)
        have hdw := down_word (xs[c]?.getD 0) (xs[c + 1]?.getD 0) r hr hx hy.1
        have HXY : Hid (xs[q + k]?.getD 0 / 2 ^ r + (xs[q + k + 1]?.getD 0 % 2 ^ r) * 2 ^ (64 - r) = xs[c]?.getD 0 / 2 ^ r + (xs[c + 1]?.getD 0 % 2 ^ r) * 2 ^ (64 - r)) := by rw [Hid, HC.out]
        generalize hX : xs[c]?.getD 0 = x at *
        generalize hY : xs[c + 1]?.getD 0 = y at *
        clear hX hY
        obtain ⟨u, hu⟩ : ∃ u, u = x / 2 ^ r + (y % 2 ^ r) * 2 ^ (64 - r) := ⟨_, rfl⟩
        have huw : 0 ≤ u ∧ u < 18446744073709551616 := by rw [hu]; exact hdw.2
        have hub : bits .or .u64 (x / 2 ^ r) (IntKind.u64.wrap (y * 2 ^ (64 - r))) = u := by
          rw [hdw.1, hu]
        have HU := hide hu
        clear hdw
        obtain ⟨a', cap', w', hap, hown', hbw'⟩ := own_append HOO.out u huw (by rw [HL.out]; have := HC.out; omega) hbr.size
        rw [HL.out] at hap hown'
        have HAP := hide hap
        have HW := hide hown'
        have HB := hide hbw'
        have hi3 : (0 : Int) ≤ 64 - (r : Int) := by omega
        clear hap hown' hbw' hu
        go_wp2_with fail
        refine hd.mono ?_
        rintro e w3 ⟨rfl, rfl⟩
        go_wp2_with (at_builtin; refine Lib.wpList_append_run _ rfl _ _ _ _ rfl _ _ rfl rfl _ _ HAP.out ?_)
        refine ⟨⟨k + 1, us ++ [u], by have := HC.out; omega, by have := HC.out; go_num, by have := HL.out; rw [Hid]; simp; omega, HW.out, fun j hj => ?_, hbr.trans HB.out⟩, by simp [intOf]; omega⟩
        by_cases e : j = k
        · subst e
          rw [HXY.out, ← HU.out, ← HL.out]; simp
        · rw [List.getElem?_append_left (by rw [HL.out]; omega)]; exact HE.out j (by omega)
      · have hki : ¬ (c : Int) < (n : Int) := by omega
        have HF : Hid (val us = val xs / 2 ^ (64 * q + r)) := by
          have e1 := down_val hr (ys := xs.drop q) (ss := us) (hwx.drop q) (by rw [HL.out, List.length_drop, HN.out]; have := HC.out; omega) (fun j hj => by
            rw [List.length_drop, HN.out] at hj
            rw [List.getElem?_drop, List.getElem?_drop, ← Nat.add_assoc]
            exact HE.out j (by have := HC.out; omega))
          have p := pw_pos q
          rw [Hid, e1, val_drop_div hwx, Int.ediv_ediv_of_nonneg (by omega), pw_bits]
        have HKN : Hid (k ≤ n) := by have := HC.out; rw [Hid]; omega
        have ht := rtrim_any HSO.out (by rw [HL.out]; have := HKN.out; omega)
        rw [HL.out] at ht
        go_wp2_with fail
        refine ht.mono ?_
        rintro e w4 ⟨a4, cap4, zs, rfl, hs4, hn4, hv4, hl4, hb4⟩
        have HV : Hid (val zs = val xs / 2 ^ (64 * q + r)) := by rw [Hid, hv4]; exact HF.out
        clear hv4
        go_wp2
        go_ret2
        exact ⟨_, _, zs, rfl, hs4.mono hbr.size, hn4, HV.out, by have := HKN.out; omega, hbr.trans (hb4.mono hbr.size)⟩
end Go.Proofs.YtejocefblpkdjaaGreat
