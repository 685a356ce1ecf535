/-
  The walk of the document's Add.
-/
import Derived.Test.YtjoakmhebcfeaaaRefA
namespace Go.Proofs.Ytjoakmhebcfeaaa
open Go.RowKit

theorem val_take_next (zs : List Int) (k : Nat) : val (zs.take (k + 1)) = val (zs.take k) + pw k * zs[k]?.getD 0 := by
  by_cases h : k < zs.length
  · exact val_take_succ zs k h
  · rw [List.take_of_length_le (by omega), List.take_of_length_le (by omega), List.getElem?_eq_none (by omega)]
    simp
/-- One step of the document's sum. -/
theorem rsum_step {xs ys ss : List Int} {k : Nat} {c : Int} (e : val ss + pw k * c = val (xs.take k) + val (ys.take k)) (c' t : Int) (h : xs[k]?.getD 0 + ys[k]?.getD 0 + c = t + 18446744073709551616 * c') :
    val ss + pw k * t + pw (k + 1) * c' = val (xs.take (k + 1)) + val (ys.take (k + 1)) := by
  rw [val_take_next, val_take_next, pw_succ]
  have m : pw k * (xs[k]?.getD 0 + ys[k]?.getD 0 + c) = pw k * (t + 18446744073709551616 * c') := by rw [h]
  rw [Int.mul_add, Int.mul_add, Int.mul_add, ← Int.mul_assoc, Int.mul_comm (pw k) 18446744073709551616] at m
  omega

set_option maxRecDepth 100000 in
set_option maxHeartbeats 4000000 in
/-- The document's Add. -/
theorem radd_any {lo lo' : Nat} {a b : Option Addr} {ca cb : Nat} {xs ys : List Int} {w : World} (ha : Seg lo w (.slice a xs.length ca) xs) (hb : Seg lo' w (.slice b ys.length cb) ys) (hla : xs.length ≤ 10000) (hlb : ys.length ≤ 10000) :
    Calls Try.prog 52 #[.slice a xs.length ca, .slice b ys.length cb] w fun e w' => ∃ (a' : Option Addr) (cap : Nat) (zs : List Int), e = .returned (.slice a' zs.length cap) ∧ Seg w.heap.size w' (.slice a' zs.length cap) zs ∧ Norm zs ∧ val zs = val xs + val ys ∧ zs.length ≤ max xs.length ys.length + 1 ∧ Below w.heap.size w w' := by
  obtain ⟨n, hn⟩ : ∃ n, xs.length = n := ⟨_, rfl⟩
  obtain ⟨m, hm⟩ : ∃ m, ys.length = m := ⟨_, rfl⟩
  have HN : Hid (xs.length = n ∧ ys.length = m) := ⟨hn, hm⟩
  have hwx := ha.words
  have hwy := hb.words
  rw [hn] at ha hla ⊢
  rw [hm] at hb hlb ⊢
  clear hn hm
  by_cases hmn : n < m
  · have hmi : (n : Int) < (m : Int) := by omega
    go_enter Try.func52, Try.ntmps52
    go_wp2
    go_loopw [5, 6, 7] (fun out c i wr => ∃ (k : Nat) (cv : Int) (ss : List Int), k ≤ m + 1 ∧ i = .int .i64 k ∧ c = .int .u64 cv ∧ 0 ≤ cv ∧ cv ≤ 1 ∧ Hid (ss.length = k) ∧ Own w.heap.size wr out ss ∧ Hid (val ss + pw k * cv = val (xs.take k) + val (ys.take k)) ∧ Below w.heap.size w wr) (fun _ _ i _ => m + 2 - (intOf i).toNat)
    case atStart => exact ⟨0, 0, [], Nat.zero_le _, rfl, rfl, by omega, by omega, rfl, own_nil _ _, by rw [Hid]; simp [val_nil], Below.refl _ _⟩
    case round =>
      obtain ⟨k, cv, ss, hk, rfl, rfl, hc0, hc1, HL, hown, HE, hbr⟩ := hrel
      obtain ⟨ao, co, rfl, hso⟩ := own_seg hown
      have HO := hide hown
      have HSO := hide hso
      clear hown hso
      rw [HL.out]
      by_cases hkM : k ≤ m
      · have hki : (k : Int) ≤ (m : Int) := by omega
        have hd1 := rdigit_any (ha.below hbr) k
        have hd2 := rdigit_any (hb.below hbr) k
        have hx := hwx.getD k
        have hy := hwy.getD k
        have HT := hide (rsum_step (k := k) HE.out)
        generalize hX : xs[k]?.getD 0 = x at *
        generalize hY : ys[k]?.getD 0 = y at *
        clear hX hY
        obtain ⟨s, hs⟩ : ∃ s, s = (x + y) % 18446744073709551616 := ⟨_, rfl⟩
        obtain ⟨t, ht⟩ : ∃ t, t = (s + cv) % 18446744073709551616 := ⟨_, rfl⟩
        have hw1 : IntKind.u64.wrap (x + y) = s := by rw [IntKind.wrap_u64, hs]
        have hw2 : IntKind.u64.wrap (s + cv) = t := by rw [IntKind.wrap_u64, ht]
        have HS : Hid (s = (x + y) % 18446744073709551616 ∧ t = (s + cv) % 18446744073709551616) := ⟨hs, ht⟩
        clear hs ht
        obtain ⟨a', cap', w', hap, hown', hbw⟩ := own_append HO.out t (by have := HS.out; omega) (by have := HL.out; omega) hbr.size
        rw [HL.out] at hap hown'
        have HAP := hide hap
        have HW := hide hown'
        have HB := hide hbw
        clear hap hown' hbw
        have fin : ∀ c' : Int, (x + y + cv = t + 18446744073709551616 * c') → val (ss ++ [t]) + pw (k + 1) * c' = val (xs.take (k + 1)) + val (ys.take (k + 1)) := fun c' e => by
          have := HT.out c' t e
          rw [val_snoc, HL.out]; exact this
        have FIN := hide fin
        clear fin
        by_cases g1 : s < x
        · by_cases g2 : t < s
          · exact absurd HS.out (by omega)
          · go_wp2_with fail
            refine hd1.mono ?_
            rintro e w1 ⟨rfl, rfl⟩
            go_wp2_with fail
            refine hd2.mono ?_
            rintro e w1 ⟨rfl, rfl⟩
            go_wp2_with (at_builtin; refine Lib.wpList_append_run _ rfl _ _ _ _ rfl _ _ rfl rfl _ _ HAP.out ?_)
            exact ⟨⟨k + 1, 1, ss ++ [t], by omega, by go_num, rfl, by omega, by omega, by rw [Hid]; simp [HL.out], HW.out, FIN.out 1 (by have := HS.out; omega), hbr.trans HB.out⟩, by simp [intOf]; omega⟩
        · by_cases g2 : t < s
          · go_wp2_with fail
            refine hd1.mono ?_
            rintro e w1 ⟨rfl, rfl⟩
            go_wp2_with fail
            refine hd2.mono ?_
            rintro e w1 ⟨rfl, rfl⟩
            go_wp2_with (at_builtin; refine Lib.wpList_append_run _ rfl _ _ _ _ rfl _ _ rfl rfl _ _ HAP.out ?_)
            exact ⟨⟨k + 1, 1, ss ++ [t], by omega, by go_num, rfl, by omega, by omega, by rw [Hid]; simp [HL.out], HW.out, FIN.out 1 (by have := HS.out; omega), hbr.trans HB.out⟩, by simp [intOf]; omega⟩
          · go_wp2_with fail
            refine hd1.mono ?_
            rintro e w1 ⟨rfl, rfl⟩
            go_wp2_with fail
            refine hd2.mono ?_
            rintro e w1 ⟨rfl, rfl⟩
            go_wp2_with (at_builtin; refine Lib.wpList_append_run _ rfl _ _ _ _ rfl _ _ rfl rfl _ _ HAP.out ?_)
            exact ⟨⟨k + 1, 0, ss ++ [t], by omega, by go_num, rfl, by omega, by omega, by rw [Hid]; simp [HL.out], HW.out, FIN.out 0 (by have := HS.out; omega), hbr.trans HB.out⟩, by simp [intOf]; omega⟩
      · have hki : ¬ (k : Int) ≤ (m : Int) := by omega
        obtain rfl : k = m + 1 := by omega
        have hso := HSO.out
        have HF : Hid (val ss = val xs + val ys) := by
          have a := val_lt hwx; have b := val_lt hwy; have d := val_nonneg hso.words
          have e := HE.out
          rw [List.take_of_length_le (by rw [HN.out.1]; omega), List.take_of_length_le (by rw [HN.out.2]; omega)] at e
          have p1 := pw_mono (show xs.length ≤ m by rw [HN.out.1]; omega)
          have p2 := pw_mono (show ys.length ≤ m by rw [HN.out.2]; omega)
          have q := pw_pos m
          have hc : cv = 0 := Classical.byContradiction fun h => by
            obtain rfl : cv = 1 := by omega
            rw [pw_succ] at e
            omega
          rw [hc] at e
          rw [Hid]; omega
        rw [HL.out] at hso
        have ht := rtrim_any HSO.out (by rw [HL.out]; omega)
        rw [HL.out] at ht
        clear hso
        go_wp2_with fail
        refine ht.mono ?_
        rintro e w4 ⟨a4, cap4, zs, rfl, hs4, hn4, hv4, hl4, hb4⟩
        have HV : Hid (val zs = val xs + val ys) := by rw [Hid, hv4]; exact HF.out
        clear hv4
        go_wp2
        go_ret
        exact ⟨_, _, zs, rfl, hs4.mono hbr.size, hn4, HV.out, by omega, hbr.trans (hb4.mono hbr.size)⟩
  · have hmi : ¬ (n : Int) < (m : Int) := by omega
    go_enter Try.func52, Try.ntmps52
    go_wp2
    go_loopw [5, 6, 7] (fun out c i wr => ∃ (k : Nat) (cv : Int) (ss : List Int), k ≤ n + 1 ∧ i = .int .i64 k ∧ c = .int .u64 cv ∧ 0 ≤ cv ∧ cv ≤ 1 ∧ Hid (ss.length = k) ∧ Own w.heap.size wr out ss ∧ Hid (val ss + pw k * cv = val (xs.take k) + val (ys.take k)) ∧ Below w.heap.size w wr) (fun _ _ i _ => n + 2 - (intOf i).toNat)
    case atStart => exact ⟨0, 0, [], Nat.zero_le _, rfl, rfl, by omega, by omega, rfl, own_nil _ _, by rw [Hid]; simp [val_nil], Below.refl _ _⟩
    case round =>
      obtain ⟨k, cv, ss, hk, rfl, rfl, hc0, hc1, HL, hown, HE, hbr⟩ := hrel
      obtain ⟨ao, co, rfl, hso⟩ := own_seg hown
      have HO := hide hown
      have HSO := hide hso
      clear hown hso
      rw [HL.out]
      by_cases hkM : k ≤ n
      · have hki : (k : Int) ≤ (n : Int) := by omega
        have hd1 := rdigit_any (ha.below hbr) k
        have hd2 := rdigit_any (hb.below hbr) k
        have hx := hwx.getD k
        have hy := hwy.getD k
        have HT := hide (rsum_step (k := k) HE.out)
        generalize hX : xs[k]?.getD 0 = x at *
        generalize hY : ys[k]?.getD 0 = y at *
        clear hX hY
        obtain ⟨s, hs⟩ : ∃ s, s = (x + y) % 18446744073709551616 := ⟨_, rfl⟩
        obtain ⟨t, ht⟩ : ∃ t, t = (s + cv) % 18446744073709551616 := ⟨_, rfl⟩
        have hw1 : IntKind.u64.wrap (x + y) = s := by rw [IntKind.wrap_u64, hs]
        have hw2 : IntKind.u64.wrap (s + cv) = t := by rw [IntKind.wrap_u64, ht]
        have HS : Hid (s = (x + y) % 18446744073709551616 ∧ t = (s + cv) % 18446744073709551616) := ⟨hs, ht⟩
        clear hs ht
        obtain ⟨a', cap', w', hap, hown', hbw⟩ := own_append HO.out t (by have := HS.out; omega) (by have := HL.out; omega) hbr.size
        rw [HL.out] at hap hown'
        have HAP := hide hap
        have HW := hide hown'
        have HB := hide hbw
        clear hap hown' hbw
        have fin : ∀ c' : Int, (x + y + cv = t + 18446744073709551616 * c') → val (ss ++ [t]) + pw (k + 1) * c' = val (xs.take (k + 1)) + val (ys.take (k + 1)) := fun c' e => by
          have := HT.out c' t e
          rw [val_snoc, HL.out]; exact this
        have FIN := hide fin
        clear fin
        by_cases g1 : s < x
        · by_cases g2 : t < s
          · exact absurd HS.out (by omega)
          · go_wp2_with fail
            refine hd1.mono ?_
            rintro e w1 ⟨rfl, rfl⟩
            go_wp2_with fail
            refine hd2.mono ?_
            rintro e w1 ⟨rfl, rfl⟩
            go_wp2_with (at_builtin; refine Lib.wpList_append_run _ rfl _ _ _ _ rfl _ _ rfl rfl _ _ HAP.out ?_)
            exact ⟨⟨k + 1, 1, ss ++ [t], by omega, by go_num, rfl, by omega, by omega, by rw [Hid]; simp [HL.out], HW.out, FIN.out 1 (by have := HS.out; omega), hbr.trans HB.out⟩, by simp [intOf]; omega⟩
        · by_cases g2 : t < s
          · go_wp2_with fail
            refine hd1.mono ?_
            rintro e w1 ⟨rfl, rfl⟩
            go_wp2_with fail
            refine hd2.mono ?_
            rintro e w1 ⟨rfl, rfl⟩
            go_wp2_with (at_builtin; refine Lib.wpList_append_run _ rfl _ _ _ _ rfl _ _ rfl rfl _ _ HAP.out ?_)
            exact ⟨⟨k + 1, 1, ss ++ [t], by omega, by go_num, rfl, by omega, by omega, by rw [Hid]; simp [HL.out], HW.out, FIN.out 1 (by have := HS.out; omega), hbr.trans HB.out⟩, by simp [intOf]; omega⟩
          · go_wp2_with fail
            refine hd1.mono ?_
            rintro e w1 ⟨rfl, rfl⟩
            go_wp2_with fail
            refine hd2.mono ?_
            rintro e w1 ⟨rfl, rfl⟩
            go_wp2_with (at_builtin; refine Lib.wpList_append_run _ rfl _ _ _ _ rfl _ _ rfl rfl _ _ HAP.out ?_)
            exact ⟨⟨k + 1, 0, ss ++ [t], by omega, by go_num, rfl, by omega, by omega, by rw [Hid]; simp [HL.out], HW.out, FIN.out 0 (by have := HS.out; omega), hbr.trans HB.out⟩, by simp [intOf]; omega⟩
      · have hki : ¬ (k : Int) ≤ (n : Int) := by omega
        obtain rfl : k = n + 1 := by omega
        have hso := HSO.out
        have HF : Hid (val ss = val xs + val ys) := by
          have a := val_lt hwx; have b := val_lt hwy; have d := val_nonneg hso.words
          have e := HE.out
          rw [List.take_of_length_le (by rw [HN.out.1]; omega), List.take_of_length_le (by rw [HN.out.2]; omega)] at e
          have p1 := pw_mono (show xs.length ≤ n by rw [HN.out.1]; omega)
          have p2 := pw_mono (show ys.length ≤ n by rw [HN.out.2]; omega)
          have q := pw_pos n
          have hc : cv = 0 := Classical.byContradiction fun h => by
            obtain rfl : cv = 1 := by omega
            rw [pw_succ] at e
            omega
          rw [hc] at e
          rw [Hid]; omega
        rw [HL.out] at hso
        have ht := rtrim_any HSO.out (by rw [HL.out]; omega)
        rw [HL.out] at ht
        clear hso
        go_wp2_with fail
        refine ht.mono ?_
        rintro e w4 ⟨a4, cap4, zs, rfl, hs4, hn4, hv4, hl4, hb4⟩
        have HV : Hid (val zs = val xs + val ys) := by rw [Hid, hv4]; exact HF.out
        clear hv4
        go_wp2
        go_ret
        exact ⟨_, _, zs, rfl, hs4.mono hbr.size, hn4, HV.out, by omega, hbr.trans (hb4.mono hbr.size)⟩
#print axioms radd_any
end Go.Proofs.Ytjoakmhebcfeaaa
