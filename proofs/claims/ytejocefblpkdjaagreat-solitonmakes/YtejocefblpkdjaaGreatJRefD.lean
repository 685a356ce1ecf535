/-
  Joined: RefD Whole FracL FracP.
-/
import Derived.Test.YtejocefblpkdjaaGreatJSmall
import Derived.Test.YtejocefblpkdjaaGreatJRefA
import Derived.Test.YtejocefblpkdjaaGreatShift
import Derived.Deep.QuietTactic
import Derived.BigQuiet
import Derived.Test.YtejocefblpkdjaaGreatJWiden
import Derived.Test.YtejocefblpkdjaaGreatJNum
namespace Go.Proofs.YtejocefblpkdjaaGreat
open Go.RowKit
theorem rdiff_step {xs ys ss : List Int} {k : Nat} {c : Int} (e : val ss - pw k * c = val (xs.take k) - val (ys.take k)) (c' t : Int) (h : xs[k]?.getD 0 - ys[k]?.getD 0 - c = t - 18446744073709551616 * c') :
    val ss + pw k * t - pw (k + 1) * c' = val (xs.take (k + 1)) - val (ys.take (k + 1)) := by
  rw [val_take_next, val_take_next, pw_succ]
  have m : pw k * (xs[k]?.getD 0 - ys[k]?.getD 0 - c) = pw k * (t - 18446744073709551616 * c') := by rw [h]
  rw [Int.mul_sub, Int.mul_sub, Int.mul_sub, ← Int.mul_assoc, Int.mul_comm (pw k) 18446744073709551616] at m
  omega
set_option maxRecDepth 100000 in
set_option maxHeartbeats 4000000 in
theorem rsub_yes {lo lo' : Nat} {a b : Option Addr} {ca cb : Nat} {xs ys : List Int} {w : World} (ha : Seg lo w (.slice a xs.length ca) xs) (hb : Seg lo' w (.slice b ys.length cb) ys) (hla : xs.length ≤ 10000) (hlb : ys.length ≤ 10000) (hle : val ys ≤ val xs) :
    Calls Tryz.prog 136 #[.slice a xs.length ca, .slice b ys.length cb] w fun e w' => ∃ (a' : Option Addr) (cap : Nat) (zs : List Int), e = .returned (.tuple #[.slice a' zs.length cap, .int .i64 0]) ∧ Seg w.heap.size w' (.slice a' zs.length cap) zs ∧ Norm zs ∧ val zs = val xs - val ys ∧ zs.length ≤ xs.length ∧ Below w.heap.size w w' := by
  have hcm := rcmp_any ha hb hla hlb
  have hcn : ¬ cmpI (val xs) (val ys) < 0 := by
    unfold cmpI
    split
    · omega
    · split <;> omega
  have HLE := hide hle
  obtain ⟨n, hn⟩ : ∃ n, xs.length = n := ⟨_, rfl⟩
  obtain ⟨m, hm⟩ : ∃ m, ys.length = m := ⟨_, rfl⟩
  have HN : Hid (xs.length = n ∧ ys.length = m) := ⟨hn, hm⟩
  have hwx := ha.words
  have hwy := hb.words
  rw [hn] at ha hla hcm ⊢
  rw [hm] at hb hlb hcm ⊢
  clear hn hm hle
  go_enter Tryz.func136, Tryz.ntmps136
  go_wp2_with fail
  refine hcm.mono ?_
  rintro e w' ⟨rfl, rfl⟩
  clear hcm
  go_wp2
  go_loopw [6, 7, 8] (fun out c i wr => ∃ (k : Nat) (cv : Int) (ss : List Int), k ≤ n ∧ i = .int .i64 k ∧ c = .int .u64 cv ∧ 0 ≤ cv ∧ cv ≤ 1 ∧ Hid (ss.length = k) ∧ Own w'.heap.size wr out ss ∧ Hid (val ss - pw k * cv = val (xs.take k) - val (ys.take k)) ∧ Below w'.heap.size w' wr) (fun _ _ i _ => n - (intOf i).toNat)
  case atStart => exact ⟨0, 0, [], Nat.zero_le _, rfl, rfl, by omega, by omega, rfl, own_nil _ _, by rw [Hid]; simp [val_nil], Below.refl _ _⟩
  case round =>
    obtain ⟨k, cv, ss, hk, rfl, rfl, hc0, hc1, HL, hown, HE, hbr⟩ := hrel
    obtain ⟨ao, co, rfl, hso⟩ := own_seg hown
    have HO := hide hown
    have HSO := hide hso
    clear hown hso
    rw [HL.out]
    by_cases hkn : k < n
    · have hki : (k : Int) < (n : Int) := by omega
      have hsa := ha.below hbr
      have hsb := hb.below hbr
      obtain ⟨pb, po, rfl, _, _⟩ := hsa.row (by omega)
      have hcx := (hsa.cell (j := k) hkn).1
      have hx := hwx.getD k
      have hy := hwy.getD k
      have HT := hide (rdiff_step (k := k) HE.out)
      have hdg : ∀ nq, Calls Tryz.prog 108 #[.slice b m cb, .int .i64 k] (wr.drewN nq) fun e w'' => e = .returned (.int .u64 (ys[k]?.getD 0)) ∧ w'' = wr.drewN nq := fun nq => rdigit_any (lo := lo') (show Seg lo' (wr.drewN nq) (.slice b m cb) ys from hsb) k
      generalize hX : xs[k]?.getD 0 = x at *
      generalize hY : ys[k]?.getD 0 = y at *
      clear hX hY
      obtain ⟨s, hs⟩ : ∃ s, s = (x - y) % 18446744073709551616 := ⟨_, rfl⟩
      obtain ⟨t, ht⟩ : ∃ t, t = (s - cv) % 18446744073709551616 := ⟨_, rfl⟩
      have hw1 : IntKind.u64.wrap (x - y) = s := by rw [IntKind.wrap_u64, hs]
      have hw2 : IntKind.u64.wrap (s - cv) = t := by rw [IntKind.wrap_u64, ht]
      have HS : Hid (s = (x - y) % 18446744073709551616 ∧ t = (s - cv) % 18446744073709551616) := ⟨hs, ht⟩
      clear hs ht
      go_wp2_with fail
      go_quiet ((go_at_call 108; exact Calls.quiet_of_same (hdg _)))
      rename_i nq
      have hOq : Own w'.heap.size (wr.drewN nq) (.slice ao ss.length co) ss := HO.out
      have hbq : Below w'.heap.size w' (wr.drewN nq) := ⟨hbr.os, hbr.tape, hbr.output, hbr.size, hbr.block⟩
      obtain ⟨wq, hq⟩ : ∃ wq, wr.drewN nq = wq := ⟨_, rfl⟩
      rw [hq] at hOq hbq ⊢
      clear hq
      obtain ⟨a', cap', w2, hap, hown', hbw⟩ := own_append hOq t (by have := HS.out; omega) (by have := HL.out; omega) hbq.size
      rw [HL.out] at hap hown'
      have HAP := hide hap
      have HW := hide hown'
      have HB := hide hbw
      clear hap hown' hbw hOq
      have fin : ∀ c' : Int, (x - y - cv = t - 18446744073709551616 * c') → val (ss ++ [t]) - pw (k + 1) * c' = val (xs.take (k + 1)) - val (ys.take (k + 1)) := fun c' e => by
        have := HT.out c' t e
        rw [val_snoc, HL.out]; exact this
      have FIN := hide fin
      clear fin
      by_cases g1 : x < y
      · by_cases g2 : s < cv
        · exact absurd HS.out (by omega)
        · go_wp2_with (at_builtin; refine Lib.wpList_append_run _ rfl _ _ _ _ rfl _ _ rfl rfl _ _ HAP.out ?_)
          exact ⟨⟨k + 1, 1, ss ++ [t], by omega, by go_num, rfl, by omega, by omega, by rw [Hid]; simp [HL.out], HW.out, FIN.out 1 (by have := HS.out; omega), hbq.trans HB.out⟩, by simp [intOf]; omega⟩
      · by_cases g2 : s < cv
        · go_wp2_with (at_builtin; refine Lib.wpList_append_run _ rfl _ _ _ _ rfl _ _ rfl rfl _ _ HAP.out ?_)
          exact ⟨⟨k + 1, 1, ss ++ [t], by omega, by go_num, rfl, by omega, by omega, by rw [Hid]; simp [HL.out], HW.out, FIN.out 1 (by have := HS.out; omega), hbq.trans HB.out⟩, by simp [intOf]; omega⟩
        · go_wp2_with (at_builtin; refine Lib.wpList_append_run _ rfl _ _ _ _ rfl _ _ rfl rfl _ _ HAP.out ?_)
          exact ⟨⟨k + 1, 0, ss ++ [t], by omega, by go_num, rfl, by omega, by omega, by rw [Hid]; simp [HL.out], HW.out, FIN.out 0 (by have := HS.out; omega), hbq.trans HB.out⟩, by simp [intOf]; omega⟩
    · obtain rfl : k = n := by omega
      have HF : Hid (val ss = val xs - val ys) := by
        have hso := HSO.out
        have a := val_lt hwx; have d := val_lt hso.words; have py := val_nonneg hwy
        rw [HN.out.1] at a
        rw [HL.out] at d
        have e := HE.out
        have hl := HLE.out
        have q := pw_pos k
        have hty : val (ys.take k) = val ys := by
          have e2 := val_drop_div hwy k
          have : val ys / pw k = 0 := Int.ediv_eq_zero_of_lt py (by omega)
          rw [this] at e2
          by_cases hkm : k ≤ ys.length
          · have e3 := val_append (ys.take k) (ys.drop k)
            rw [List.take_append_drop, e2] at e3
            omega
          · rw [List.take_of_length_le (by omega)]
        rw [List.take_of_length_le (by rw [HN.out.1]; omega), hty] at e
        have hc : cv = 0 := Classical.byContradiction fun h => by
          obtain rfl : cv = 1 := by omega
          omega
        rw [hc] at e
        rw [Hid]; omega
      have ht := rtrim_any HSO.out (by rw [HL.out]; omega)
      rw [HL.out] at ht
      go_wp2_with fail
      refine ht.mono ?_
      rintro e w4 ⟨a4, cap4, zs, rfl, hs4, hn4, hv4, hl4, hb4⟩
      have HV : Hid (val zs = val xs - val ys) := by rw [Hid, hv4]; exact HF.out
      clear hv4
      go_wp2
      go_ret2
      exact ⟨_, _, zs, rfl, hs4.mono hbr.size, hn4, HV.out, by omega, hbr.trans (hb4.mono hbr.size)⟩
def sgn (below : Bool) (v : Int) : Int := if below then -v else v
def Canon (below : Bool) (zs : List Int) : Prop := Norm zs ∧ (below = true → zs ≠ [])
set_option maxRecDepth 100000 in
set_option maxHeartbeats 1000000 in
theorem imake_any {lo : Nat} {a : Option Addr} {n cap : Nat} {zs : List Int} {w : World} (h : Seg lo w (.slice a n cap) zs) (hl : zs.length ≤ 10000) (below : Bool) :
    Calls Tryz.prog 86 #[.bool below, .slice a n cap] w fun e w' => ∃ (b' : Bool) (a' : Option Addr) (cap' : Nat) (ts : List Int), e = .returned (.agg #[.bool b', .slice a' ts.length cap']) ∧ Seg w.heap.size w' (.slice a' ts.length cap') ts ∧ Canon b' ts ∧ sgn b' (val ts) = sgn below (val zs) ∧ ts.length ≤ zs.length ∧ Below w.heap.size w w' := by
  obtain ⟨rfl, _⟩ := h.len
  have hA : ∀ (t : TypeId) (u v : Value), Below w.heap.size w (w.alloc (.cells #[u, v] t)) := fun t u v => (Below.refl _ w).alloc (Nat.le_refl _) _
  go_enter Tryz.func86, Tryz.ntmps86
  go_wp2_with fail
  have hB0 : Below w.heap.size w (w.alloc (.cells #[.bool false, .slice none 0 0] 25)) := (Below.refl _ w).alloc (Nat.le_refl _) _
  refine (rtrim_any (h.below hB0) (by omega)).mono ?_
  rintro e w1 ⟨a1, c1, ts, rfl, hs1, hn1, hv1, hl1, hb1⟩
  have hh : w1.heap[w.heap.size]? = some (.cells #[.bool false, .slice none 0 0] 25 (0, 0)) := (hb1.block w.heap.size (by simp)).trans (World.alloc_heap_new w _)
  have hc0 : w1.cell? ⟨w.heap.size, 0, none⟩ = some (.bool false) := cell_of_heap hh 0
  have hc1 : w1.cell? ⟨w.heap.size, 1, none⟩ = some (.slice none 0 0) := cell_of_heap hh 1
  have hf0 : w1.frozen? ⟨w.heap.size, 0, none⟩ = false := frozen_of_heap hh 0
  have hf1 : w1.frozen? ⟨w.heap.size, 1, none⟩ = false := frozen_of_heap hh 1
  have HV1 := hide hv1
  have hB1 := hB0.trans (hb1.mono hB0.size)
  have hlo : w.heap.size < (w.alloc (.cells #[.bool false, .slice none 0 0] 25)).heap.size := by simp
  clear hv1 hh hA
  have hT : ∀ b : Bool, Turns w.heap.size w1 ((w1.setCell ⟨w.heap.size, 0, none⟩ (.bool b)).setCell ⟨w.heap.size, 1, none⟩ (.slice a1 ts.length c1)) := fun b => turns2 _ _ _ _
  have hS : ∀ b : Bool, Seg w.heap.size ((w1.setCell ⟨w.heap.size, 0, none⟩ (.bool b)).setCell ⟨w.heap.size, 1, none⟩ (.slice a1 ts.length c1)) (.slice a1 ts.length c1) ts := fun b => (hs1.turns_lo (hT b) hlo).mono hB0.size
  have hBB : ∀ b : Bool, Below w.heap.size w ((w1.setCell ⟨w.heap.size, 0, none⟩ (.bool b)).setCell ⟨w.heap.size, 1, none⟩ (.slice a1 ts.length c1)) := fun b => hB1.trans (hT b).below
  cases below with
  | false =>
    go_wp2
    refine bodyPost_ret (v := .agg #[.bool false, .slice a1 ts.length c1]) (by simp [results, Tryz.f86, go_sem, hc0, hc1]) rfl ?_
    exact ⟨false, _, _, ts, rfl, hS _, ⟨hn1, fun h => by cases h⟩, by rw [HV1.out], hl1, hBB _⟩
  | true =>
    by_cases h0 : ts = []
    · subst h0
      have hz : val zs = 0 := by rw [← HV1.out, val_nil]
      have HZ := hide hz
      clear hz
      go_wp2
      refine bodyPost_ret (v := .agg #[.bool false, .slice a1 0 c1]) (by simp [results, Tryz.f86, go_sem, hc0, hc1]) rfl ?_
      exact ⟨false, _, _, [], rfl, hS _, ⟨hn1, fun h => by cases h⟩, by rw [HZ.out]; rfl, hl1, hBB _⟩
    · have hp : (0 : Int) < (ts.length : Int) := by have := List.length_pos_iff.2 h0; omega
      have hpN : 0 < ts.length := List.length_pos_iff.2 h0
      have H0 := hide h0
      clear h0
      go_wp2
      refine bodyPost_ret (v := .agg #[.bool true, .slice a1 ts.length c1]) (by simp [results, Tryz.f86, go_sem, hc0, hc1]) rfl ?_
      exact ⟨true, _, _, ts, rfl, hS _, ⟨hn1, fun _ => H0.out⟩, by rw [HV1.out], hl1, hBB _⟩
theorem sgn_gcd (b : Bool) (n d : Int) : Int.gcd (sgn b n) d = Int.gcd n d := by cases b <;> simp [sgn]
theorem sgn_ediv (b : Bool) {n g : Int} (h : g ∣ n) : sgn b (n / g) = sgn b n / g := by
  cases b
  · rfl
  · simp only [sgn, if_true]; exact (Int.neg_ediv_of_dvd h).symm
def LowL (b : Bool) (xs ds : List Int) : Prop := Canon b xs ∧ Norm ds ∧ Low (sgn b (val xs)) (val ds)
def ratL (b : Bool) (xs ds : List Int) : Rat := Rat.divInt (sgn b (val xs)) (val ds)
theorem lowL_div {b b' : Bool} {n d : Int} {ts es : List Int} (hd : 0 < d) (hc : Canon b' ts) (hn : Norm es) (h1 : sgn b' (val ts) = sgn b (n / (Int.gcd n d : Int))) (h2 : val es = d / (Int.gcd n d : Int)) : LowL b' ts es ∧ ratL b' ts es = Rat.divInt (sgn b n) d := by
  have hg : (Int.gcd n d : Int) ∣ n := Int.gcd_dvd_left ..
  obtain ⟨l1, l2⟩ := low_div (sgn b n) d hd
  rw [sgn_gcd] at l1 l2
  rw [sgn_ediv b hg] at h1
  exact ⟨⟨hc, hn, by rw [h1, h2]; exact l1⟩, by rw [ratL, h1, h2]; exact l2⟩
def roundN (n d : Int) : Int := if d < 2 * (n % d) ∨ (2 * (n % d) = d ∧ n / d % 2 = 1) then n / d + 1 else n / d
theorem roundN_near {n d : Int} (hd : 0 < d) : -d ≤ 2 * (n - roundN n d * d) ∧ 2 * (n - roundN n d * d) ≤ d ∧ (2 * (n - roundN n d * d) = d ∨ 2 * (n - roundN n d * d) = -d → roundN n d % 2 = 0) := by
  have e := Int.ediv_mul_add_emod n d
  have h0 := Int.emod_nonneg n (show d ≠ 0 by omega)
  have h1 := Int.emod_lt_of_pos n hd
  unfold roundN
  generalize hq : n / d = q at *
  generalize n % d = r at *
  split
  · rename_i h
    rw [Int.add_mul, Int.one_mul]
    omega
  · omega
theorem roundN_unique {n d m : Int} (hd : 0 < d) (h1 : -d ≤ 2 * (n - m * d)) (h2 : 2 * (n - m * d) ≤ d) (h3 : 2 * (n - m * d) = d ∨ 2 * (n - m * d) = -d → m % 2 = 0) : m = roundN n d := by
  obtain ⟨k1, k2, k3⟩ := roundN_near (n := n) hd
  generalize roundN n d = x at *
  rcases Int.lt_trichotomy m x with h | h | h
  · exfalso
    obtain ⟨t, rfl⟩ : ∃ t, x = m + 1 + t := ⟨x - m - 1, by omega⟩
    have ht : 0 ≤ t * d := Int.mul_nonneg (by omega) (by omega)
    rw [show (m + 1 + t) * d = m * d + d + t * d by rw [Int.add_mul, Int.add_mul, Int.one_mul]] at k1 k2 k3
    have ht0 : t = 0 := by
      rcases Int.lt_or_eq_of_le (show 0 ≤ t by omega) with g | g
      · have := Int.mul_le_mul_of_nonneg_right (show 1 ≤ t by omega) (show 0 ≤ d by omega)
        omega
      · exact g.symm
    subst ht0
    omega
  · exact h
  · exfalso
    obtain ⟨t, rfl⟩ : ∃ t, m = x + 1 + t := ⟨m - x - 1, by omega⟩
    have ht : 0 ≤ t * d := Int.mul_nonneg (by omega) (by omega)
    rw [show (x + 1 + t) * d = x * d + d + t * d by rw [Int.add_mul, Int.add_mul, Int.one_mul]] at h1 h2 h3
    have ht0 : t = 0 := by
      rcases Int.lt_or_eq_of_le (show 0 ≤ t by omega) with g | g
      · have := Int.mul_le_mul_of_nonneg_right (show 1 ≤ t by omega) (show 0 ≤ d by omega)
        omega
      · exact g.symm
    subst ht0
    omega
end Go.Proofs.YtejocefblpkdjaaGreat
namespace Go.Proofs.YtejocefblpkdjaaGreat
theorem gcd_one_of {a b c d : Int} (h : Int.gcd a b = 1) (hc : c ∣ a) (hd : d ∣ b) : Int.gcd c d = 1 :=
  Nat.Coprime.coprime_dvd_left (Int.natAbs_dvd_natAbs.2 hc) (Nat.Coprime.coprime_dvd_right (Int.natAbs_dvd_natAbs.2 hd) h)
theorem gcd_plus {u d v e : Int} (h : Low u d) (k : Low v e) :
    Int.gcd (u * (e / (Int.gcd d e : Int)) + v * (d / (Int.gcd d e : Int))) ((Int.gcd d e : Int) * ((d / (Int.gcd d e : Int)) * (e / (Int.gcd d e : Int)))) = Int.gcd (u * (e / (Int.gcd d e : Int)) + v * (d / (Int.gcd d e : Int))) (Int.gcd d e : Int) := by
  have gp : 0 < Int.gcd d e := Nat.pos_of_ne_zero (by intro h0; have := Int.gcd_eq_zero_iff.1 h0; have := h.1; omega)
  have c := Int.gcd_ediv_gcd_ediv_gcd gp
  have a2 : d / (Int.gcd d e : Int) ∣ d := ⟨_, (Int.ediv_mul_cancel (Int.gcd_dvd_left ..)).symm⟩
  have b2 : e / (Int.gcd d e : Int) ∣ e := ⟨_, (Int.ediv_mul_cancel (Int.gcd_dvd_right ..)).symm⟩
  have q1 := gcd_one_of h.2 (Int.dvd_refl u) a2
  have q2 := gcd_one_of k.2 (Int.dvd_refl v) b2
  generalize hA : d / (Int.gcd d e : Int) = A at *
  generalize hB : e / (Int.gcd d e : Int) = B at *
  have c' : Int.gcd B A = 1 := by rw [Int.gcd_comm]; exact c
  have r1 : Int.gcd (u * B + v * A) A = 1 := by
    rw [Int.gcd_add_mul_right_left, Int.gcd_mul_left_left_of_gcd_eq_one c']
    exact q1
  have r2 : Int.gcd (u * B + v * A) B = 1 := by
    rw [Int.add_comm, Int.gcd_add_mul_right_left, Int.gcd_mul_left_left_of_gcd_eq_one c]
    exact q2
  rw [Int.gcd_mul_left_right_of_gcd_eq_one]
  rw [Int.gcd_mul_left_right_of_gcd_eq_one r2]
  exact r1
theorem low_plus {u d v e : Int} (h : Low u d) (k : Low v e) {g A B up s : Int} (hg : g = (Int.gcd d e : Int)) (hA : A = d / g) (hB : B = e / g) (hup : up = u * B + v * A) (hs : s = (Int.gcd up g : Int)) :
    Low (up / s) (A * (e / s)) ∧ Rat.divInt (up / s) (A * (e / s)) = Rat.divInt u d + Rat.divInt v e := by
  subst hg hA hB hup
  have gp : 0 < (Int.gcd d e : Int) := gcd_pos_of k.1
  have a2 := Int.ediv_mul_cancel (Int.gcd_dvd_left d e)
  have b2 := Int.ediv_mul_cancel (Int.gcd_dvd_right d e)
  have hgp := gcd_plus h k
  have hpA : 0 < d / (Int.gcd d e : Int) := Int.ediv_pos_of_pos_of_dvd h.1 (by omega) (Int.gcd_dvd_left ..)
  have hpB : 0 < e / (Int.gcd d e : Int) := Int.ediv_pos_of_pos_of_dvd k.1 (by omega) (Int.gcd_dvd_right ..)
  generalize hA : d / (Int.gcd d e : Int) = A at *
  generalize hB : e / (Int.gcd d e : Int) = B at *
  generalize (Int.gcd d e : Int) = g at *
  generalize hup : u * B + v * A = up at *
  have hpos : 0 < g * (A * B) := Int.mul_pos gp (Int.mul_pos hpA hpB)
  obtain ⟨l1, l2⟩ := low_div up (g * (A * B)) hpos
  rw [hgp, ← hs] at l1 l2
  have hsd : s ∣ e := by
    rw [hs, ← b2]
    exact Int.dvd_trans (Int.gcd_dvd_right ..) ⟨B, by rw [Int.mul_comm]⟩
  have he : A * (e / s) = g * (A * B) / s := by
    rw [← Int.mul_ediv_assoc A hsd, ← b2]
    congr 1
    rw [Int.mul_comm B g, Int.mul_left_comm]
  rw [he]
  refine ⟨l1, l2.trans ?_⟩
  rw [Rat.divInt_add_divInt _ _ (show d ≠ 0 by have := h.1; omega) (show e ≠ 0 by have := k.1; omega)]
  rw [divInt_eq_iff hpos (Int.mul_pos h.1 k.1), ← hup, ← a2, ← b2]
  simp only [Int.mul_add, Int.mul_comm, Int.mul_left_comm]
end Go.Proofs.YtejocefblpkdjaaGreat
