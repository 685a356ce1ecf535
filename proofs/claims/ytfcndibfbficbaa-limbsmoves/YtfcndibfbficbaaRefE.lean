/-
  The walk of the document's Up.
-/
import Derived.Test.YtfcndibfbficbaaRefC
import Derived.Test.YtfcndibfbficbaaUp
namespace Go.Proofs.Ytfcndibfbficbaa
open Go.RowKit

/-- One step of the document's move up. -/
theorem rup_step {xs us : List Int} {k r : Nat} {lv : Int} (hr : r < 64) (hw : Words xs) (e : val us + pw k * (lv / 2 ^ (64 - r)) = 2 ^ r * val (xs.take k)) :
    val us + pw k * (lv / 2 ^ (64 - r) + xs[k]?.getD 0 * 2 ^ r % 18446744073709551616) + pw (k + 1) * (xs[k]?.getD 0 / 2 ^ (64 - r)) = 2 ^ r * val (xs.take (k + 1)) := by
  have hx := hw.getD k
  obtain ⟨_, e2, _⟩ := shl_parts (xs[k]?.getD 0) r (by omega) hx.1
  rw [← e2, val_take_next, pw_succ, Int.mul_add, Int.mul_add, ← e]
  generalize xs[k]?.getD 0 = x
  have hd := Int.emod_add_mul_ediv (x * 2 ^ r) 18446744073709551616
  have m : pw k * (x * 2 ^ r % 18446744073709551616 + 18446744073709551616 * (x * 2 ^ r / 18446744073709551616)) = 2 ^ r * (pw k * x) := by rw [hd]; ac_rfl
  rw [Int.mul_add, ← Int.mul_assoc, Int.mul_comm (pw k) 18446744073709551616] at m
  omega
theorem made_zeros (n : Nat) : (madeCells (Value.int .u64 0).cells (n * 1)).toList = (List.replicate n (0 : Int)).map (Value.int .u64) := by
  apply List.ext_getElem
  · simp [madeCells]
  · intro i h1 h2
    simp [madeCells, Value.cells, Nat.mod_one]
theorem or_comm_u64 (x y : Int) (hx : 0 ≤ x ∧ x < 18446744073709551616) (hy : 0 ≤ y ∧ y < 18446744073709551616) : bits .or .u64 x y = bits .or .u64 y x := by
  obtain ⟨n, rfl⟩ := Int.eq_ofNat_of_zero_le hx.1
  obtain ⟨m, rfl⟩ := Int.eq_ofNat_of_zero_le hy.1
  rw [bits_or_u64_nat n m (by omega) (by omega), bits_or_u64_nat m n (by omega) (by omega), Nat.or_comm]

set_option maxRecDepth 100000 in
set_option maxHeartbeats 4000000 in
/-- The document's Up, where n is not 0. -/
theorem rup_yes {lo : Nat} {a : Option Addr} {cap : Nat} {xs : List Int} {w : World} (h : Seg lo w (.slice a xs.length cap) xs) (hl : xs.length ≤ 10000) (bits : Nat) (hbits : bits ≤ 16777216) (hne : val xs ≠ 0) :
    Calls Try.prog 23 #[.slice a xs.length cap, .int .i64 bits] w fun e w' => ∃ (a' : Option Addr) (cap' : Nat) (us : List Int), e = .returned (.tuple #[.slice a' us.length cap', .int .i64 0]) ∧ Seg w.heap.size w' (.slice a' us.length cap') us ∧ Norm us ∧ val us = val xs * 2 ^ bits ∧ us.length ≤ xs.length + bits / 64 + 1 ∧ Below w.heap.size w w' := by
  obtain ⟨q, r, hr, rfl⟩ : ∃ q r, r < 64 ∧ bits = 64 * q + r := ⟨bits / 64, bits % 64, by omega, by omega⟩
  have hq1 : (64 * (q : Int) + (r : Int)) / 64 = q := by omega
  have hq2 : (64 * (q : Int) + (r : Int)) % 64 = r := by omega
  have hmv := moved_any ((64 * q + r : Nat) : Int) w
  rw [decide_eq_true (show 0 ≤ ((64 * q + r : Nat) : Int) ∧ ((64 * q + r : Nat) : Int) ≤ 16777216 by omega)] at hmv
  have ht := rtrim_any h (by omega)
  obtain ⟨i0, hi, hz0, hz1, hz2⟩ := info_parts infoU64
  obtain ⟨n, hn⟩ : ∃ n, xs.length = n := ⟨_, rfl⟩
  have HN := hide hn
  have hwx := h.words
  rw [hn] at h hl ht ⊢
  clear hn
  go_enter Try.func23, Try.ntmps23
  go_wp2_with fail
  refine hmv.mono ?_
  rintro e w0 ⟨rfl, rfl⟩
  go_wp2_with fail
  refine ht.mono ?_
  rintro e w1 ⟨a1, cap1, ts, rfl, hs1, hn1, hv1, hl1, hb1⟩
  have h0 : ((ts.length : Int) == 0) = false := beq_eq_false_iff_ne.2 (by
    intro e
    have : ts = [] := List.length_eq_zero_iff.1 (by omega)
    rw [this, val_nil] at hv1
    exact hne hv1.symm)
  clear hv1 hmv ht hne
  go_wp2_with (at_make; refine wpList_make_full _ rfl _ _ 23 rfl w1.heap.size 34 i0 (.int .u64 0) 1 Try.underlying23 hi hz0 hz1 .i64 .i64 _ _ q rfl rfl hq1 hq1 (by rw [hz2]; omega) (by unfold maxLen; omega) (Nat.le_refl _) ?_; intro w2 hown hgrow)
  have hO : Own w1.heap.size w2 (.slice (some ⟨w1.heap.size, 0, none⟩) q q) (List.replicate q 0 ++ []) := by
    refine ⟨?_, by rw [List.append_nil]; exact Words.zeros q⟩
    rw [made_zeros] at hown
    rw [List.append_nil, List.length_replicate]
    exact hown
  have hb2 : Below w1.heap.size w1 w2 := (Below.refl _ _).grown hgrow (Nat.le_refl _) (fun k e => by cases e)
  have hs2 := h.below hb1
  have HO := hide hO
  clear hown hgrow hi hz0 hz1 hz2 hO hs1 hn1 h
  by_cases hr0 : r = 0
  · have hrb : ((r : Int) == 0) = true := beq_iff_eq.2 (by omega)
    have HR := hide hr0
    clear hr0
    simp only [hq2]
    go_loopw [6, 7, 9] (fun out la i wr => ∃ (k : Nat) (lv : Int) (us : List Int), k ≤ n + 1 ∧ i = .int .i64 k ∧ la = .int .u64 lv ∧ 0 ≤ lv ∧ lv < 18446744073709551616 ∧ Hid (us.length = k ∧ (k = n + 1 → lv = 0)) ∧ Own w1.heap.size wr out (List.replicate q 0 ++ us) ∧ Hid (val us + pw k * (lv / 2 ^ (64 - r)) = 2 ^ r * val (xs.take k)) ∧ Below w1.heap.size w1 wr) (fun _ _ i _ => n + 2 - (intOf i).toNat)
    case atStart => exact ⟨0, 0, [], Nat.zero_le _, rfl, rfl, by omega, by omega, ⟨rfl, fun _ => rfl⟩, HO.out, by rw [Hid]; simp [val_nil], hb2⟩
    case round =>
      obtain ⟨k, lv, us, hk, rfl, rfl, hl0, hl1, HL, hown, HE, hbr⟩ := hrel
      obtain ⟨ao, co, rfl, hso⟩ := own_seg hown
      have HOO := hide hown
      have HSO := hide hso
      clear hown hso
      have hlen : (List.replicate q (0 : Int) ++ us).length = q + k := by have := HL.out.1; simp; omega
      have HLN := hide hlen
      rw [hlen]
      clear hlen
      by_cases hkn : k ≤ n
      · have hki : (k : Int) ≤ (n : Int) := by omega
        have hd := rdigit_any (hs2.below hbr) k
        have hx := hwx.getD k
        have HX : Hid (k = n → xs[k]?.getD 0 = 0) := fun e => by rw [List.getElem?_eq_none (by rw [HN.out]; omega)]; rfl
        have HT := hide (rup_step hr hwx (k := k) (lv := lv) HE.out)
        have hsw := shr_word lv r (by omega) ⟨hl0, hl1⟩
        have hul := up_low (xs[k]?.getD 0) (lv / 2 ^ (64 - r)) r (by omega) hx.1 hsw.1 hsw.2
        generalize hX : xs[k]?.getD 0 = x at *
        clear hX
        obtain ⟨u, hu⟩ : ∃ u, u = lv / 2 ^ (64 - r) + x * 2 ^ r % 18446744073709551616 := ⟨_, rfl⟩
        have hub : x = u := by
          have e0 : lv / 2 ^ (64 - r) = 0 := by rw [HR.out]; exact Int.ediv_eq_zero_of_lt hl0 hl1
          have e1 : x * 2 ^ r % 18446744073709551616 = x := by rw [HR.out]; omega
          rw [hu, e0, e1]; omega
        have HU := hide hu
        have HUB := hide hub
        have huw : 0 ≤ u ∧ u < 18446744073709551616 := by rw [hu]; exact hul.2
        clear hul hsw
        obtain ⟨a', cap', w', hap, hown', hbw'⟩ := own_append HOO.out u huw (by rw [HLN.out]; omega) hbr.size
        rw [HLN.out] at hap hown'
        have HAP := hide hap
        have HW := hide hown'
        have HB := hide hbw'
        have hi3 : (0 : Int) ≤ 64 - (r : Int) := by omega
        clear hap hown' hbw' hu
        go_wp2_with fail
        refine hd.mono ?_
        rintro e w3 ⟨rfl, rfl⟩
        go_wp2_with (at_builtin; refine Lib.wpList_append_run _ rfl _ _ _ _ rfl _ _ rfl rfl _ _ HAP.out ?_)
        refine ⟨⟨k + 1, u, us ++ [u], by omega, by go_num, rfl, huw.1, huw.2, ⟨by have := HL.out.1; simp; omega, fun e => (fun e => HUB.out ▸ e) (HX.out (by omega))⟩, by rw [← List.append_assoc]; exact HW.out, ?_, hbr.trans HB.out⟩, by simp [intOf]; omega⟩
        rw [Hid, val_snoc, HL.out.1]
        have e := HT.out
        have hu := HU.out
        rw [HUB.out] at e hu
        rw [← hu] at e
        exact e
      · have hki : ¬ (k : Int) ≤ (n : Int) := by omega
        obtain rfl : k = n + 1 := by omega
        have hlv := HL.out.2 rfl
        subst hlv
        have HF : Hid (val (List.replicate q 0 ++ us) = val xs * 2 ^ (64 * q + r)) := by
          have e := HE.out
          rw [Int.zero_ediv, Int.mul_zero, Int.add_zero, List.take_of_length_le (by rw [HN.out]; omega)] at e
          rw [Hid, val_append, val_zeros, List.length_replicate, e, ← pw_bits, Int.zero_add]
          ac_rfl
        have ht := rtrim_any HSO.out (by rw [HLN.out]; omega)
        rw [HLN.out] at ht
        go_wp2_with fail
        refine ht.mono ?_
        rintro e w4 ⟨a4, cap4, zs, rfl, hs4, hn4, hv4, hl4, hb4⟩
        have HV : Hid (val zs = val xs * 2 ^ (64 * q + r)) := by rw [Hid, hv4]; exact HF.out
        clear hv4
        go_wp2
        go_ret2
        exact ⟨_, _, zs, rfl, hs4.mono (by have := hb1.size; have := hbr.size; omega), hn4, HV.out, by omega, hb1.trans ((hbr.trans (hb4.mono hbr.size)).mono hb1.size)⟩
  · have hrb : ((r : Int) == 0) = false := beq_eq_false_iff_ne.2 (by omega)
    simp only [hq2]
    go_loopw [6, 7, 9] (fun out la i wr => ∃ (k : Nat) (lv : Int) (us : List Int), k ≤ n + 1 ∧ i = .int .i64 k ∧ la = .int .u64 lv ∧ 0 ≤ lv ∧ lv < 18446744073709551616 ∧ Hid (us.length = k ∧ (k = n + 1 → lv = 0)) ∧ Own w1.heap.size wr out (List.replicate q 0 ++ us) ∧ Hid (val us + pw k * (lv / 2 ^ (64 - r)) = 2 ^ r * val (xs.take k)) ∧ Below w1.heap.size w1 wr) (fun _ _ i _ => n + 2 - (intOf i).toNat)
    case atStart => exact ⟨0, 0, [], Nat.zero_le _, rfl, rfl, by omega, by omega, ⟨rfl, fun _ => rfl⟩, HO.out, by rw [Hid]; simp [val_nil], hb2⟩
    case round =>
      obtain ⟨k, lv, us, hk, rfl, rfl, hl0, hl1, HL, hown, HE, hbr⟩ := hrel
      obtain ⟨ao, co, rfl, hso⟩ := own_seg hown
      have HOO := hide hown
      have HSO := hide hso
      clear hown hso
      have hlen : (List.replicate q (0 : Int) ++ us).length = q + k := by have := HL.out.1; simp; omega
      have HLN := hide hlen
      rw [hlen]
      clear hlen
      by_cases hkn : k ≤ n
      · have hki : (k : Int) ≤ (n : Int) := by omega
        have hd := rdigit_any (hs2.below hbr) k
        have hx := hwx.getD k
        have HX : Hid (k = n → xs[k]?.getD 0 = 0) := fun e => by rw [List.getElem?_eq_none (by rw [HN.out]; omega)]; rfl
        have HT := hide (rup_step hr hwx (k := k) (lv := lv) HE.out)
        have hsw := shr_word lv r (by omega) ⟨hl0, hl1⟩
        have hul := up_low (xs[k]?.getD 0) (lv / 2 ^ (64 - r)) r (by omega) hx.1 hsw.1 hsw.2
        generalize hX : xs[k]?.getD 0 = x at *
        clear hX
        obtain ⟨u, hu⟩ : ∃ u, u = lv / 2 ^ (64 - r) + x * 2 ^ r % 18446744073709551616 := ⟨_, rfl⟩
        have hub : bits .or .u64 (IntKind.u64.wrap (x * 2 ^ r)) (lv / 2 ^ (64 - r)) = u := by
          rw [or_comm_u64 _ _ (by rw [IntKind.wrap_u64]; omega) (by have := two_le r (by omega); omega), hul.1, hu]
        have HU := hide hu
        have HUB := hide hub
        have huw : 0 ≤ u ∧ u < 18446744073709551616 := by rw [hu]; exact hul.2
        clear hul hsw
        obtain ⟨a', cap', w', hap, hown', hbw'⟩ := own_append HOO.out u huw (by rw [HLN.out]; omega) hbr.size
        rw [HLN.out] at hap hown'
        have HAP := hide hap
        have HW := hide hown'
        have HB := hide hbw'
        have hi3 : (0 : Int) ≤ 64 - (r : Int) := by omega
        clear hap hown' hbw' hu
        go_wp2_with fail
        refine hd.mono ?_
        rintro e w3 ⟨rfl, rfl⟩
        go_wp2_with (at_builtin; refine Lib.wpList_append_run _ rfl _ _ _ _ rfl _ _ rfl rfl _ _ HAP.out ?_)
        refine ⟨⟨k + 1, x, us ++ [u], by omega, by go_num, rfl, hx.1, hx.2, ⟨by have := HL.out.1; simp; omega, fun e => id (HX.out (by omega))⟩, by rw [← List.append_assoc]; exact HW.out, ?_, hbr.trans HB.out⟩, by simp [intOf]; omega⟩
        rw [Hid, val_snoc, HL.out.1, HU.out]; exact HT.out
      · have hki : ¬ (k : Int) ≤ (n : Int) := by omega
        obtain rfl : k = n + 1 := by omega
        have hlv := HL.out.2 rfl
        subst hlv
        have HF : Hid (val (List.replicate q 0 ++ us) = val xs * 2 ^ (64 * q + r)) := by
          have e := HE.out
          rw [Int.zero_ediv, Int.mul_zero, Int.add_zero, List.take_of_length_le (by rw [HN.out]; omega)] at e
          rw [Hid, val_append, val_zeros, List.length_replicate, e, ← pw_bits, Int.zero_add]
          ac_rfl
        have ht := rtrim_any HSO.out (by rw [HLN.out]; omega)
        rw [HLN.out] at ht
        go_wp2_with fail
        refine ht.mono ?_
        rintro e w4 ⟨a4, cap4, zs, rfl, hs4, hn4, hv4, hl4, hb4⟩
        have HV : Hid (val zs = val xs * 2 ^ (64 * q + r)) := by rw [Hid, hv4]; exact HF.out
        clear hv4
        go_wp2
        go_ret2
        exact ⟨_, _, zs, rfl, hs4.mono (by have := hb1.size; have := hbr.size; omega), hn4, HV.out, by omega, hb1.trans ((hbr.trans (hb4.mono hbr.size)).mono hb1.size)⟩
#print axioms rup_yes

set_option maxRecDepth 100000 in
set_option maxHeartbeats 400000 in
/-- The document's Up of 0. -/
theorem rup_zero {lo : Nat} {a : Option Addr} {cap : Nat} {xs : List Int} {w : World} (h : Seg lo w (.slice a xs.length cap) xs) (hl : xs.length ≤ 10000) (bits : Nat) (hbits : bits ≤ 16777216) (hne : val xs = 0) :
    Calls Try.prog 23 #[.slice a xs.length cap, .int .i64 bits] w fun e w' => e = .returned (.tuple #[.slice none 0 0, .int .i64 0]) ∧ Below w.heap.size w w' := by
  have hmv := moved_any (bits : Int) w
  rw [decide_eq_true (show 0 ≤ (bits : Int) ∧ (bits : Int) ≤ 16777216 by omega)] at hmv
  go_enter Try.func23, Try.ntmps23
  go_wp2_with fail
  refine hmv.mono ?_
  rintro e w0 ⟨rfl, rfl⟩
  go_wp2_with fail
  refine (rtrim_any h (by omega)).mono ?_
  rintro e w1 ⟨a1, cap1, ts, rfl, hs1, hn1, hv1, hl1, hb1⟩
  have h0 : ts = [] := Classical.byContradiction fun e => by have := norm_pos hs1.words hn1 e; omega
  subst h0
  clear hv1 hne hmv
  go_wp2
  go_ret2
  exact ⟨rfl, hb1⟩

set_option maxRecDepth 100000 in
set_option maxHeartbeats 400000 in
/-- The document's Up, where bits is none: 3 (ErrRange). -/
theorem rup_no (sv : Value) (bits : Int) (hbits : ¬ (0 ≤ bits ∧ bits ≤ 16777216)) (w : World) :
    Calls Try.prog 23 #[sv, .int .i64 bits] w fun e w' => e = .returned (.tuple #[.slice none 0 0, .int .i64 3]) ∧ w' = w := by
  have hmv := moved_any bits w
  rw [decide_eq_false hbits] at hmv
  clear hbits
  go_enter Try.func23, Try.ntmps23
  go_wp2_with fail
  refine hmv.mono ?_
  rintro e w0 ⟨rfl, rfl⟩
  go_wp2
  go_ret2
  exact ⟨rfl, rfl⟩
end Go.Proofs.Ytfcndibfbficbaa
