/-
  Moves by bits: plain arithmetic on words.
-/
import Derived.Test.YtejocefblpkdjabGreatJNum
import Derived.Laws.Bits64
import Derived.Laws.Bits64b
namespace Go.Proofs.YtejocefblpkdjabGreat

theorem two_pos (r : Nat) : (0 : Int) < 2 ^ r := Int.pow_pos (by decide)
theorem two_split (r : Nat) (hr : r ≤ 64) : (2 : Int) ^ (64 - r) * 2 ^ r = 18446744073709551616 := by
  rw [← Int.pow_add, show 64 - r + r = 64 by omega]; rfl
/-- x times 2^r, parted at 2^64. -/
theorem shl_parts (x : Int) (r : Nat) (hr : r ≤ 64) (_hx : 0 ≤ x) : (x * 2 ^ r) % 18446744073709551616 = (x % 2 ^ (64 - r)) * 2 ^ r ∧ (x * 2 ^ r) / 18446744073709551616 = x / 2 ^ (64 - r) ∧ 0 ≤ x % 2 ^ (64 - r) ∧ x % 2 ^ (64 - r) < 2 ^ (64 - r) ∧ (x % 2 ^ (64 - r)) * 2 ^ r + 2 ^ r ≤ 18446744073709551616 := by
  have hs := two_split r hr
  have p := two_pos r
  have c := two_pos (64 - r)
  generalize (2 : Int) ^ r = P at *
  generalize (2 : Int) ^ (64 - r) = C at *
  have m0 := Int.emod_nonneg x (show C ≠ 0 by omega)
  have m1 := Int.emod_lt_of_pos x c
  have hdiv := Int.emod_add_mul_ediv x C
  have e : x * P = (x % C) * P + 18446744073709551616 * (x / C) := by
    conv => lhs; rw [← hdiv]
    rw [Int.add_mul, ← hs, Int.mul_assoc, Int.mul_assoc, Int.mul_comm (x / C) P]
  have b1 : (x % C) * P + P ≤ C * P := by
    have : (x % C + 1) * P ≤ C * P := Int.mul_le_mul_of_nonneg_right (by omega) (by omega)
    rw [Int.add_mul] at this; omega
  have b0 : 0 ≤ (x % C) * P := Int.mul_nonneg m0 (by omega)
  generalize (x % C) * P = M at *
  rw [e]
  exact ⟨by omega, by omega, m0, m1, by omega⟩
theorem or_low (T Y r : Nat) (h : T < 2 ^ r) : T ||| (Y * 2 ^ r) = T + Y * 2 ^ r := by
  rw [Nat.or_comm, ← Nat.shiftLeft_eq, ← Nat.shiftLeft_add_eq_or_of_lt h, Nat.add_comm]
/-- The low part of a word that is moved up, put to what is below it. -/
theorem up_low (x t : Int) (r : Nat) (hr : r ≤ 64) (hx : 0 ≤ x) (ht0 : 0 ≤ t) (ht : t < 2 ^ r) : bits .or .u64 t (IntKind.u64.wrap (x * 2 ^ r)) = t + (x * 2 ^ r) % 18446744073709551616 ∧ 0 ≤ t + (x * 2 ^ r) % 18446744073709551616 ∧ t + (x * 2 ^ r) % 18446744073709551616 < 18446744073709551616 := by
  obtain ⟨e1, e2, m0, m1, b⟩ := shl_parts x r hr hx
  rw [IntKind.wrap_u64, e1]
  obtain ⟨T, rfl⟩ := Int.eq_ofNat_of_zero_le ht0
  obtain ⟨Y, hY⟩ := Int.eq_ofNat_of_zero_le m0
  rw [hY] at b ⊢
  have hp : ((2 : Int) ^ r) = ((2 ^ r : Nat) : Int) := by simp
  rw [hp] at ht b ⊢
  have hT : T < 2 ^ r := by omega
  have e : ((Y : Int) * ((2 ^ r : Nat) : Int)) = ((Y * 2 ^ r : Nat) : Int) := by simp
  rw [e] at b ⊢
  refine ⟨?_, by omega, by omega⟩
  rw [bits_or_u64_nat T (Y * 2 ^ r) (by omega) (by omega), or_low T Y r hT]
  rfl
theorem shr_word (x : Int) (r : Nat) (hr : r ≤ 64) (hx : 0 ≤ x ∧ x < 18446744073709551616) : 0 ≤ x / 2 ^ (64 - r) ∧ x / 2 ^ (64 - r) < 2 ^ r := by
  have hs := two_split r hr
  have p := two_pos r
  have c := two_pos (64 - r)
  exact ⟨Int.ediv_nonneg hx.1 (by omega), Int.ediv_lt_of_lt_mul c (by rw [Int.mul_comm, hs]; exact hx.2)⟩
theorem two_le (r : Nat) (hr : r ≤ 64) : (2 : Int) ^ r ≤ 18446744073709551616 := by
  have hs := two_split r hr
  have p := two_pos r
  have c := two_pos (64 - r)
  have : 1 * (2 : Int) ^ r ≤ 2 ^ (64 - r) * 2 ^ r := Int.mul_le_mul_of_nonneg_right (by omega) (by omega)
  omega

/-- One step of a move up. -/
theorem up_step {xs ss : List Int} {q k r : Nat} (hr : r < 64) (hx : Words xs) (hk : k < xs.length) (hl : q + k + 1 < ss.length)
    (e : val ss = pw q * (2 ^ r * val (xs.take k))) (z : ∀ j, q + k < j → ss[j]?.getD 0 = 0) (t0 : 0 ≤ ss[q + k]?.getD 0) (t : ss[q + k]?.getD 0 < 2 ^ r) :
    let ss' := (ss.set (q + k) (bits .or .u64 (ss[q + k]?.getD 0) (IntKind.u64.wrap (xs[k]?.getD 0 * 2 ^ r)))).set (q + k + 1) (xs[k]?.getD 0 / 2 ^ (64 - r))
    val ss' = pw q * (2 ^ r * val (xs.take (k + 1))) ∧ (∀ j, q + (k + 1) < j → ss'[j]?.getD 0 = 0) ∧ ss'[q + (k + 1)]?.getD 0 < 2 ^ r := by
  intro ss'
  have hw := hx.getD k
  obtain ⟨o1, _, _⟩ := up_low (xs[k]?.getD 0) (ss[q + k]?.getD 0) r (by omega) hw.1 t0 t
  obtain ⟨_, e2, _⟩ := shl_parts (xs[k]?.getD 0) r (by omega) hw.1
  have hsw := shr_word (xs[k]?.getD 0) r (by omega) hw
  have z1 := z (q + k + 1) (by omega)
  refine ⟨?_, fun j hj => ?_, ?_⟩
  · have v1 := val_set (ss := ss) (k := q + k) (by omega) (bits .or .u64 (ss[q + k]?.getD 0) (IntKind.u64.wrap (xs[k]?.getD 0 * 2 ^ r)))
    have v2 := val_set (ss := ss.set (q + k) (bits .or .u64 (ss[q + k]?.getD 0) (IntKind.u64.wrap (xs[k]?.getD 0 * 2 ^ r)))) (k := q + k + 1) (by simpa using hl) (xs[k]?.getD 0 / 2 ^ (64 - r))
    rw [List.getElem?_set_ne (by omega), z1] at v2
    show val ss' = _
    rw [v2, v1, e, o1, val_take_succ xs k hk, ← e2]
    generalize hM : xs[k]?.getD 0 * 2 ^ r = M at *
    rw [show (ss[q + k]?.getD 0 + M % 18446744073709551616 - ss[q + k]?.getD 0) = M % 18446744073709551616 by omega, Int.sub_zero, pw_succ, Int.add_assoc,
      Int.mul_comm 18446744073709551616 (pw (q + k)), Int.mul_assoc, ← Int.mul_add, Int.emod_add_mul_ediv, pw_add, ← hM, Int.mul_add, Int.mul_add]
    congr 1
    ac_rfl
  · show ss'[j]?.getD 0 = 0
    rw [List.getElem?_set_ne (by omega), List.getElem?_set_ne (by omega)]
    exact z j (by omega)
  · show ss'[q + k + 1]?.getD 0 < _
    rw [List.getElem?_set_self (by simpa using hl)]
    exact hsw.2
/-- What a move down by less than a word comes to, word by word. -/
theorem down_val {r : Nat} (hr : r < 64) : ∀ {ys ss : List Int}, Words ys → ss.length = ys.length → (∀ j, j < ys.length → ss[j]?.getD 0 = ys[j]?.getD 0 / 2 ^ r + (ys[j + 1]?.getD 0 % 2 ^ r) * 2 ^ (64 - r)) → val ss = val ys / 2 ^ r
  | [], [], _, _, _ => by simp [val_nil]
  | [], s :: ss, _, h, _ => by simp at h
  | y :: ys, [], _, h, _ => by simp at h
  | y :: ys, s :: ss, hw, hl, h => by
    have ih := down_val hr (ys := ys) (ss := ss) hw.tail (by simpa using hl) (fun j hj => by have := h (j + 1) (by simpa using hj); simpa using this)
    have h0 := h 0 (by simp)
    simp only [List.getElem?_cons_zero, Option.getD_some, List.getElem?_cons_succ] at h0
    have hs := two_split r (by omega)
    have p := two_pos r
    have c := two_pos (64 - r)
    have hv : val ys % 2 ^ r = ys[0]?.getD 0 % 2 ^ r := by
      cases ys with
      | nil => rfl
      | cons v vs =>
        simp only [List.getElem?_cons_zero, Option.getD_some]
        rw [val_cons, ← hs, Int.mul_comm (2 ^ (64 - r)) (2 ^ r), Int.mul_assoc, Int.add_mul_emod_self_left]
    rw [val_cons, val_cons, ih, h0, ← hv]
    generalize val ys = V at *
    generalize (2 : Int) ^ r = P at *
    generalize (2 : Int) ^ (64 - r) = C at *
    have hd := Int.emod_add_mul_ediv V P
    have e : (y + 18446744073709551616 * V) / P = y / P + C * V := by
      rw [← hs, show C * P * V = P * (C * V) by ac_rfl, Int.add_mul_ediv_left _ _ (by omega)]
    rw [e, ← hs]
    have : C * V = (V % P) * C + C * P * (V / P) := by
      conv => lhs; rw [← hd]
      rw [Int.mul_add]; congr 1 <;> ac_rfl
    omega
theorem val_drop_div {xs : List Int} (hw : Words xs) (q : Nat) : val (xs.drop q) = val xs / pw q := by
  by_cases hq : q ≤ xs.length
  · have e := val_append (xs.take q) (xs.drop q)
    rw [List.take_append_drop, List.length_take, Nat.min_eq_left hq] at e
    have a := val_nonneg (hw.take q)
    have b := val_lt (hw.take q)
    rw [List.length_take, Nat.min_eq_left hq] at b
    have p := pw_pos q
    rw [e, Int.add_mul_ediv_left _ _ (by omega), Int.ediv_eq_zero_of_lt a b, Int.zero_add]
  · rw [List.drop_eq_nil_of_le (by omega), val_nil]
    have a := val_nonneg hw
    have b := val_lt hw
    have c := pw_mono (m := xs.length) (n := q) (by omega)
    rw [Int.ediv_eq_zero_of_lt a (by omega)]
theorem pw_bits (q r : Nat) : pw q * 2 ^ r = 2 ^ (64 * q + r) := by
  unfold pw
  rw [Int.pow_add, Int.pow_mul]; rfl
end Go.Proofs.YtejocefblpkdjabGreat
