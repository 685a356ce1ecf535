/-
  CrcLinear: of three lists the sum of their exclusive or is that of their sums.
-/
import Derived.Test.YtenmfkdnfhgkaaaCWords
import Derived.Laws.Cover1
import Derived.Deep.RegionHeld3
namespace Go.Proofs.Ytenmfkdnfhgkaaa
open Go.RowKit

theorem cSum_three {xs ys zs : List Int} (hx : Octs xs) (hy : Octs ys) (hz : Octs zs) (h1 : ys.length = xs.length) (h2 : zs.length = xs.length) : sumBy cT (xl (xl xs ys) zs) = sumBy cT xs ^^^ sumBy cT ys ^^^ sumBy cT zs := by
  have h := cReg_three xs ys zs 4294967295 4294967295 4294967295 h1 h2
  rw [Nat.xor_self, Nat.zero_xor] at h
  have a1 := xor_ones (cReg_lt hx (r := 4294967295) (by omega))
  have a2 := xor_ones (cReg_lt hy (r := 4294967295) (by omega))
  have a3 := xor_ones (cReg_lt hz (r := 4294967295) (by omega))
  have a4 := xor_ones (cReg_lt (xl_octs (xl_octs hx hy) hz) (r := 4294967295) (by omega))
  unfold sumBy
  rw [← a1, ← a2, ← a3, ← a4, h]
  generalize cReg cT 4294967295 xs = A
  generalize cReg cT 4294967295 ys = B
  generalize cReg cT 4294967295 zs = C
  have : A ^^^ 4294967295 ^^^ (B ^^^ 4294967295) ^^^ (C ^^^ 4294967295) = A ^^^ B ^^^ C ^^^ 4294967295 ^^^ (4294967295 ^^^ 4294967295) := by ac_rfl
  rw [this, Nat.xor_self, Nat.xor_zero]
/-- Three lists, of which the first k bytes are added. -/
def mix3 (k : Nat) (xs ys zs : List Int) : List Int := mix k (mix k xs ys) zs
theorem mix3_length (k : Nat) (xs ys zs : List Int) : (mix3 k xs ys zs).length = xs.length := by unfold mix3; rw [mix_length, mix_length]
theorem mix3_zero (xs ys zs : List Int) : mix3 0 xs ys zs = xs := by unfold mix3; rw [mix_zero, mix_zero]
theorem mix3_all {xs ys zs : List Int} (h1 : ys.length = xs.length) (h2 : zs.length = xs.length) : mix3 xs.length xs ys zs = xl (xl xs ys) zs := by
  unfold mix3
  rw [mix_all h1 (Nat.le_refl _), mix_all (by rw [xl_length h1]; exact h2) (by rw [xl_length h1]; exact Nat.le_refl _)]
theorem mix3_get {k : Nat} {xs ys zs : List Int} (hk : k < xs.length) : (mix3 k xs ys zs)[k]?.getD 0 = xs[k]?.getD 0 := by
  unfold mix3
  rw [mix_getD (by rw [mix_length]; exact hk), if_neg (by omega), mix_getD hk, if_neg (by omega)]
theorem mix3_set {k : Nat} {xs ys zs : List Int} (hk : k < xs.length) : (mix3 k xs ys zs).set k (bx (bx (xs[k]?.getD 0) (ys[k]?.getD 0)) (zs[k]?.getD 0)) = mix3 (k + 1) xs ys zs := by
  refine getD_ext (by rw [List.length_set, mix3_length, mix3_length]) fun j hj => ?_
  rw [List.length_set, mix3_length] at hj
  have hj' : j < (mix (k + 1) xs ys).length := by rw [mix_length]; exact hj
  have e2 : (mix3 (k + 1) xs ys zs)[j]?.getD 0 = if j < k + 1 then bx ((mix (k + 1) xs ys)[j]?.getD 0) (zs[j]?.getD 0) else (mix (k + 1) xs ys)[j]?.getD 0 := mix_getD hj'
  have hj2 : j < (mix k xs ys).length := by rw [mix_length]; exact hj
  have e1 : (mix3 k xs ys zs)[j]?.getD 0 = if j < k then bx ((mix k xs ys)[j]?.getD 0) (zs[j]?.getD 0) else (mix k xs ys)[j]?.getD 0 := mix_getD hj2
  by_cases e : j = k
  · subst e
    rw [List.getElem?_set_self (by rw [mix3_length]; exact hj), e2, if_pos (by omega), mix_getD hj, if_pos (by omega)]
    rfl
  · rw [List.getElem?_set_ne (by omega), e1, e2, mix_getD hj, mix_getD hj]
    by_cases h : j < k
    · simp only [h, show j < k + 1 by omega, if_true]
    · simp only [h, show ¬ j < k + 1 by omega, if_false]
theorem min3_run (la lb lc n : Nat) (h : n = min la (min lb lc)) (w : World) : (Builtin.min_ #[3, 3, 3] 3 #[.int .i64 la, .int .i64 lb, .int .i64 lc]).run Try.prog w = .ok (.int .i64 n) w := by
  rw [run_min_int3]
  congr 2
  subst h
  split <;> split <;> omega
set_option maxRecDepth 100000 in
set_option maxHeartbeats 1000000 in
theorem clinear_long (a b c : Option Addr) (la ca lb cb lc cc n : Nat) (w : World) (hn : n = min la (min lb lc)) (h : 2000 < n) :
    Calls Try.prog 7 #[.slice a la ca, .slice b lb cb, .slice c lc cc] w fun e w' => e = .returned (.bool true) ∧ Below w.heap.size w w' := by
  have hk := cawake_any w
  have hmin := min3_run la lb lc n hn
  have hi : 2000 < (n : Int) := by omega
  clear hn h
  go_enter Try.func7, Try.ntmps7
  go_wp2_with fail
  refine hk.mono ?_
  rintro e w1 ⟨rfl, hb⟩
  clear hk
  go_wp2
  go_ret
  exact ⟨rfl, hb⟩
set_option maxRecDepth 100000 in
set_option maxHeartbeats 4000000 in
/-- CrcLinear, where the shortest has at most 2,000 bytes. -/
theorem clinear_short {a b c : Option Addr} {la ca lb cb lc cc n : Nat} {xs ys zs : List Int} {w : World} (hn : n = min la (min lb lc)) (h : n ≤ 2000) (A : Byt 0 w (.slice a n ca) xs) (B : Byt 0 w (.slice b n cb) ys) (C : Byt 0 w (.slice c n cc) zs) :
    Calls Try.prog 7 #[.slice a la ca, .slice b lb cb, .slice c lc cc] w fun e w' => e = .returned (.bool true) ∧ Below w.heap.size w w' := by
  have hmin := min3_run la lb lc n hn
  have hi : ¬ 2000 < (n : Int) := by omega
  have HX := hide A.len.1.symm
  have HY := hide B.len.1.symm
  have HZ := hide C.len.1.symm
  have hla : n ≤ la := by omega
  have hlb : n ≤ lb := by omega
  have hlc : n ≤ lc := by omega
  have hca : (n : Int) ≤ (ca : Int) := by have := A.len.2; omega
  have hcb : (n : Int) ≤ (cb : Int) := by have := B.len.2; omega
  have hcc : (n : Int) ≤ (cc : Int) := by have := C.len.2; omega
  clear hn
  have HB0 := hide (Below.refl w.heap.size w)
  have hc1 := cawake_any w
  go_enter Try.func7, Try.ntmps7
  go_wp2_with fail
  refine hc1.mono ?_
  rintro e w2 ⟨rfl, b3⟩
  have HB4 := hide (HB0.out.trans (b3.mono HB0.out.size))
  replace A := A.below b3
  replace B := B.below b3
  replace C := C.below b3
  clear hc1 b3 HB0
  have A1 := hide A
  have B1 := hide B
  have C1 := hide C
  have HW := hide HB4.out
  have hc5 := copyb_all A (by omega)
  go_wp2_with fail
  refine hc5.mono ?_
  rintro e w6 ⟨x1, cx, rfl, S, b7⟩
  have HC := hide b7
  have HB8 := hide (HB4.out.trans (b7.mono HB4.out.size))
  replace A := A.below b7
  replace B := B.below b7
  replace C := C.below b7
  clear hc5 b7 HB4
  have HS := hide S
  clear A B C S
  go_wp2_with fail
  go_loopw [10] (fun i wr => ∃ k : Nat, k ≤ n ∧ i = .int .i64 k ∧ Hid (Byt w2.heap.size wr (.slice x1 n cx) (mix3 k xs ys zs)) ∧ Hid (Below w2.heap.size w2 wr)) (fun i _ => n - (intOf i).toNat)
  case atStart => exact ⟨0, Nat.zero_le _, rfl, (by rw [mix3_zero]; exact HS), HC⟩
  case round =>
    obtain ⟨k, hk, rfl, HS, HC⟩ := hrel
    by_cases hkn : k < n
    · have hki : (k : Int) < (n : Int) := by omega
      have hkb : (k : Int) < (lb : Int) := by omega
      have hkc : (k : Int) < (lc : Int) := by omega
      have B2 := B1.out.below HC.out
      have C2 := C1.out.below HC.out
      obtain ⟨p, o, rfl, hp, _⟩ := HS.out.row (by omega)
      obtain ⟨q, r, rfl, _, _⟩ := B2.row (by omega)
      obtain ⟨s, t, rfl, _, _⟩ := C2.row (by omega)
      obtain ⟨c1, f1⟩ := HS.out.cell hkn
      have c2 := (B2.cell hkn).1
      have c3 := (C2.cell hkn).1
      rw [mix3_get (by have := HX.out; omega)] at c1
      have hx := A1.out.words.getD k
      have hy := B1.out.words.getD k
      have hz := C1.out.words.getD k
      have h1 := bits_bx hx hy
      have hxy := bx_oct hx hy
      have h2 := bits_bx hxy hz
      have HS1 := hide (HS.out.set (k := k) (by rw [mix3_length]; have := HX.out; omega) (bx_oct hxy hz))
      have HC1 := hide ((HC.out.setCell (p := ⟨p, o + k, none⟩) hp (.int .u8 (bx (bx (xs[k]?.getD 0) (ys[k]?.getD 0)) (zs[k]?.getD 0)))).drew)
      rw [mix3_set (by have := HX.out; omega)] at HS1
      generalize xs[k]?.getD 0 = x at *
      generalize ys[k]?.getD 0 = y at *
      generalize zs[k]?.getD 0 = z at *
      generalize bx x y = u at *
      generalize bx u z = v at *
      clear B2 C2 hx hy hz hxy HS HC hp
      go_wp2_with fail
      go_region
      go_wp2
      exact ⟨⟨k + 1, by omega, by go_num, HS1, HC1⟩, by simp [intOf]; omega⟩
    · obtain rfl : k = n := by omega
      have hS : Byt w2.heap.size wr (.slice x1 k cx) (xl (xl xs ys) zs) := by
        have e := mix3_all (xs := xs) (ys := ys) (zs := zs) (by rw [HX.out, HY.out]) (by rw [HX.out, HZ.out])
        rw [HX.out] at e
        rw [← e]
        exact HS.out
      have e3 := cSum_three A1.out.words B1.out.words C1.out.words (by rw [HX.out, HY.out]) (by rw [HX.out, HZ.out])
      have A2 := A1.out.below HC.out
      have B2 := B1.out.below HC.out
      have C2 := C1.out.below HC.out
      have q0 : ∀ V, Below wr.heap.size wr V → Calls Try.prog 12 #[.pointer none, .slice x1 k cx] V fun e w' => e = .returned (.int .u32 (sumBy cT xs ^^^ sumBy cT ys ^^^ sumBy cT zs : Nat)) ∧ Below V.heap.size V w' := fun V hV => by
        have := csum_any (PT.nil V) nums_cT (hS.below hV) (by omega)
        rwa [e3] at this
      have q1 : ∀ V, Below wr.heap.size wr V → Calls Try.prog 12 #[.pointer none, .slice a k ca] V fun e w' => e = .returned (.int .u32 (sumBy cT xs : Nat)) ∧ Below V.heap.size V w' := fun V hV => csum_any (PT.nil V) nums_cT (A2.below hV) (by omega)
      have q2 : ∀ V, Below wr.heap.size wr V → Calls Try.prog 12 #[.pointer none, .slice b k cb] V fun e w' => e = .returned (.int .u32 (sumBy cT ys : Nat)) ∧ Below V.heap.size V w' := fun V hV => csum_any (PT.nil V) nums_cT (B2.below hV) (by omega)
      have q3 : ∀ V, Below wr.heap.size wr V → Calls Try.prog 12 #[.pointer none, .slice c k cc] V fun e w' => e = .returned (.int .u32 (sumBy cT zs : Nat)) ∧ Below V.heap.size V w' := fun V hV => csum_any (PT.nil V) nums_cT (C2.below hV) (by omega)
      have h5 := u32_xor_nat (sumBy cT xs) (sumBy cT ys) (sumBy_lt _ _) (sumBy_lt _ _)
      have h6 := u32_xor_nat (sumBy cT xs ^^^ sumBy cT ys) (sumBy cT zs) (Nat.xor_lt_two_pow (n := 32) (sumBy_lt _ _) (sumBy_lt _ _)) (sumBy_lt _ _)
      generalize sumBy cT xs ^^^ sumBy cT ys ^^^ sumBy cT zs = s4 at *
      generalize sumBy cT xs ^^^ sumBy cT ys = s3 at *
      generalize sumBy cT xs = s0 at *
      generalize sumBy cT ys = s1 at *
      generalize sumBy cT zs = s2 at *
      have Q0 := hide q0
      have Q1 := hide q1
      have Q2 := hide q2
      have Q3 := hide q3
      have HE := hide (HW.out.trans (HC.out.mono HW.out.size))
      clear q0 q1 q2 q3 e3 hS A2 B2 C2 A1 B1 C1 HS HC HW HX HY HZ hmin hk
      go_wp2_with fail
      have hr := (Below.refl wr.heap.size wr).drew
      have t0 : Hid True := trivial
      go_region_held3 (fun _ : World => True) (exact trivial)
        (first
        | (clear t0
           go_at_call 12
           refine (Q0.out _ hr).mono ?_
           rintro e v0 ⟨rfl, hb⟩
           replace hr := hr.trans (hb.mono hr.size)
           clear hb
           have t1 : Hid True := trivial)
        | (clear t1
           go_at_call 12
           refine (Q1.out _ hr).mono ?_
           rintro e v1 ⟨rfl, hb⟩
           replace hr := hr.trans (hb.mono hr.size)
           clear hb
           have t2 : Hid True := trivial)
        | (clear t2
           go_at_call 12
           refine (Q2.out _ hr).mono ?_
           rintro e v2 ⟨rfl, hb⟩
           replace hr := hr.trans (hb.mono hr.size)
           clear hb
           have t3 : Hid True := trivial)
        | (clear t3
           go_at_call 12
           refine (Q3.out _ hr).mono ?_
           rintro e v3 ⟨rfl, hb⟩
           replace hr := hr.trans (hb.mono hr.size)
           clear hb
           have t4 : Hid True := trivial))
      all_goals
        go_wp2
        go_ret
        exact ⟨rfl, HE.out.trans (hr.mono HE.out.size)⟩
theorem clinear_any {a b c : Option Addr} {la ca lb cb lc cc : Nat} {xs ys zs : List Int} {w : World} (A : Byt 0 w (.slice a la ca) xs) (B : Byt 0 w (.slice b lb cb) ys) (C : Byt 0 w (.slice c lc cc) zs) :
    Calls Try.prog 7 #[.slice a la ca, .slice b lb cb, .slice c lc cc] w fun e w' => e = .returned (.bool true) ∧ Below w.heap.size w w' := by
  obtain ⟨n, hn⟩ : ∃ n, n = min la (min lb lc) := ⟨_, rfl⟩
  have h1 := A.len.1
  have h2 := B.len.1
  have h3 := C.len.1
  by_cases h : n ≤ 2000
  · exact clinear_short hn h (A.take (k := n) (by omega)) (B.take (k := n) (by omega)) (C.take (k := n) (by omega))
  · exact clinear_long a b c la ca lb cb lc cc n w hn (by omega)
end Go.Proofs.Ytenmfkdnfhgkaaa
