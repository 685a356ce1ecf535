/-
  The walks of the program's takeRow and giveBack: a row taken off a list of one's own, and given back.
-/
import Derived.Test.YtejocefblpkdjabGreatTRows
import Derived.Test.YtejocefblpkdjabGreatSub
import Derived.Test.YtejocefblpkdjabGreatJWiden
namespace Go.Proofs.YtejocefblpkdjabGreat
open Go.RowKit

/-- One digit of a row that is taken off: what is written, what is borrowed. -/
theorem digit_off {s x y c : Int} (hs : 0 ≤ s ∧ s < 18446744073709551616) (hx : 0 ≤ x ∧ x < 18446744073709551616) (hy : 0 ≤ y ∧ y < 18446744073709551616) (hc : 0 ≤ c ∧ c < 18446744073709551616) :
    ∃ hi lo l1 o1 wd o2, x * y / 18446744073709551616 = hi ∧ x * y % 18446744073709551616 = lo ∧ (lo + c + 0) % 18446744073709551616 = l1 ∧ (lo + c + 0) / 18446744073709551616 = o1 ∧ (s - l1 - 0) % 18446744073709551616 = wd ∧ bor s (l1 + 0) = o2 ∧
      0 ≤ lo ∧ (0 ≤ l1 ∧ l1 < 18446744073709551616) ∧ (0 ≤ wd ∧ wd < 18446744073709551616) ∧ (0 ≤ hi + o1 ∧ hi + o1 < 18446744073709551616) ∧ (0 ≤ hi + o1 + o2 ∧ hi + o1 + o2 < 18446744073709551616) ∧ wd - 18446744073709551616 * (hi + o1 + o2) = s - x * y - c := by
  have h1 : 0 ≤ x * y := Int.mul_nonneg hx.1 hy.1
  have h2 : x * y ≤ 18446744073709551615 * 18446744073709551615 := Int.mul_le_mul (by omega) (by omega) hy.1 (by omega)
  generalize x * y = p at *
  refine ⟨_, _, _, _, _, _, rfl, rfl, rfl, rfl, rfl, rfl, by omega, by omega, by omega, by omega, ?_, ?_⟩
  · unfold bor; split <;> omega
  · unfold bor; split <;> omega
theorem off_step {P ys : List Int} {i k : Nat} {x c t wd c' : Int} (h : i + k < P.length) (hk : k < ys.length) (e : val P - pw (i + k) * c = t - pw i * (x * val (ys.take k)))
    (key : wd - 18446744073709551616 * c' = P[i + k]?.getD 0 - x * ys[k]?.getD 0 - c) : val (P.set (i + k) wd) - pw (i + k + 1) * c' = t - pw i * (x * val (ys.take (k + 1))) := by
  have e1 : pw i * (x * val (ys.take (k + 1))) = pw i * (x * val (ys.take k)) + pw (i + k) * (x * ys[k]?.getD 0) := by
    rw [val_take_succ ys k hk, Int.mul_add, Int.mul_add, pw_add, Int.mul_assoc, Int.mul_left_comm x]
  have e2 := val_set h wd
  have e3 : pw (i + k) * (wd - 18446744073709551616 * c') = pw (i + k) * (P[i + k]?.getD 0 - x * ys[k]?.getD 0 - c) := by rw [key]
  rw [e1, e2, pw_succ]
  generalize pw (i + k) = q at *
  generalize x * ys[k]?.getD 0 = xy at *
  generalize P[i + k]?.getD 0 = s at *
  rw [Int.mul_sub, Int.mul_sub, Int.mul_sub] at e3
  rw [Int.mul_sub, Int.mul_comm 18446744073709551616 q, Int.mul_assoc]
  omega

set_option maxRecDepth 100000 in
set_option maxHeartbeats 2000000 in
/-- takeRow(left, n, x), where left is a list from its place i on. -/
theorem takeRow_any {lo lo' : Nat} {W : World} {b off len cap i l cl : Nat} {an : Option Addr} {cn : Nat} {P ys : List Int} {x : Int} (hn : Seg lo' W (.slice an ys.length cn) ys) (hsep : ∀ g o, an = some ⟨g, o, none⟩ → g ≠ b)
    (hP : Seg lo W (.slice (some ⟨b, off, none⟩) len cap) P) (hl1 : ys.length ≤ l) (him : i + l ≤ len) (hx : 0 ≤ x ∧ x < 18446744073709551616) (hlen : len ≤ 20000) :
    Calls Tryz.prog 97 #[.slice (some ⟨b, off + i, none⟩) l cl, .slice an ys.length cn, .int .u64 x] W fun e W' => ∃ (c : Int) (P' : List Int), e = .returned (.int .u64 c) ∧ (0 ≤ c ∧ c < 18446744073709551616) ∧
      Seg lo W' (.slice (some ⟨b, off, none⟩) len cap) P' ∧ val P' - pw (i + ys.length) * c = val P - pw i * (x * val ys) ∧ (∀ j, j < i ∨ i + ys.length ≤ j → P'[j]?.getD 0 = P[j]?.getD 0) ∧ Turns b W W' := by
  have hwy := hn.words
  obtain ⟨m, hm⟩ : ∃ m, ys.length = m := ⟨_, rfl⟩
  have HM := hide hm
  rw [hm] at hl1 hn ⊢
  clear hm
  go_enter Tryz.func97, Tryz.ntmps97
  go_wp2
  go_loopw [7, 15] (fun c j wr => ∃ (k : Nat) (cv : Int) (ss : List Int), k ≤ m ∧ j = .int .i64 k ∧ c = .int .u64 cv ∧ (0 ≤ cv ∧ cv < 18446744073709551616) ∧ Seg lo wr (.slice (some ⟨b, off, none⟩) len cap) ss ∧ Hid (val ss - pw (i + k) * cv = val P - pw i * (x * val (ys.take k))) ∧ Hid (∀ j, j < i ∨ i + k ≤ j → ss[j]?.getD 0 = P[j]?.getD 0) ∧ Turns b W wr) (fun _ j _ => m - (intOf j).toNat)
  case atStart =>
    refine ⟨0, 0, P, Nat.zero_le _, rfl, rfl, by omega, hP, ?_, fun _ _ => rfl, Turns.refl _ _⟩
    rw [Hid, List.take_zero, val_nil]; simp
  case round =>
    obtain ⟨k, cv, ss, hk, rfl, rfl, hc, hss, HE, HT, hbr⟩ := hrel
    have HL := hide hss.len.1
    have hws := hss.words
    by_cases hkm : k < m
    · obtain ⟨g, o2, rfl, _, _⟩ := hn.row (by omega)
      have hsr := hn.turns hbr (hsep g o2 rfl)
      have hyc := (hsr.cell (j := k) hkm).1
      have hlo := (hss.row (by omega))
      obtain ⟨hce, hfr⟩ := hss.cell (j := i + k) (by omega)
      rw [← Nat.add_assoc] at hce hfr
      have hwk := hws.getD (i + k)
      have hyk := hwy.getD k
      obtain ⟨hi, lo, l1, o1, wd, o2, e1, e2, e3, e4, e5, e6, hlo0, hl1', hwd, hh1, hc', key⟩ := digit_off hwk hx hyk hc
      have H1 := hide (off_step (by have := HL.out; omega) (by have := HM.out; omega) HE.out key)
      have HS := hide ((hss).set (k := i + k) (by have := HL.out; omega) hwd)
      rw [← Nat.add_assoc] at HS
      have HT' : Hid (∀ j, j < i ∨ i + (k + 1) ≤ j → (ss.set (i + k) wd)[j]?.getD 0 = P[j]?.getD 0) := fun j hj => by
        rw [List.getElem?_set_ne (by omega)]; exact HT.out j (by omega)
      have hmul := fun w => mul64_any x (ys[k]?.getD 0) hx hyk w
      have ha1 := fun w => add64 lo cv 0 hlo0 hc.1 (by decide) (by decide) w
      have ha2 := fun w => sub64b (ss[i + k]?.getD 0) l1 0 hwk.1 hl1'.1 hl1'.2 (by decide) (by decide) w
      rw [e1, e2] at hmul
      rw [e3, e4] at ha1
      rw [e5, e6] at ha2
      clear hws key hlo e1 e2 e3 e4 e5 e6 hlo0 hl1' hyk hwk
      have hkl : (k : Int) < (l : Int) := by omega
      have hkm' : (k : Int) < (m : Int) := by omega
      generalize ys[k]?.getD 0 = y at *
      generalize ss[i + k]?.getD 0 = s at *
      go_wp2_with (first | (go_at_call 105; refine (hmul _).mono ?_; rintro e w' ⟨rfl, rfl⟩))
      refine ⟨⟨k + 1, _, _, by omega, by go_num, rfl, hc', HS.out, H1, HT', ?_⟩, by simp [intOf]; omega⟩
      exact hbr.setCell (off + i + k) _
    · obtain rfl : k = m := by omega
      go_wp2
      go_ret
      refine ⟨_, ss, rfl, hc, hss, ?_, HT.out, hbr⟩
      have := HE.out
      rwa [List.take_of_length_le (by have := HM.out; omega)] at this

/-- One step of what is given back, i places up. -/
theorem back_step {P ys : List Int} {i k : Nat} {c t : Int} (h : i + k < P.length) (hk : k < ys.length) (e : val P + pw (i + k) * c = t + pw i * val (ys.take k)) :
    val (P.set (i + k) ((P[i + k]?.getD 0 + ys[k]?.getD 0 + c) % 18446744073709551616)) + pw (i + k + 1) * ((P[i + k]?.getD 0 + ys[k]?.getD 0 + c) / 18446744073709551616) = t + pw i * val (ys.take (k + 1)) := by
  have := row_step (x := 1) (t := t) (c := c) (wd := (P[i + k]?.getD 0 + ys[k]?.getD 0 + c) % 18446744073709551616) (c' := (P[i + k]?.getD 0 + ys[k]?.getD 0 + c) / 18446744073709551616) h hk (by rw [Int.one_mul]; exact e) (by omega)
  rwa [Int.one_mul] at this

set_option maxRecDepth 100000 in
set_option maxHeartbeats 2000000 in
/-- giveBack(left, n), where left is a list from its place i on. -/
theorem giveBack_any {lo lo' : Nat} {W : World} {b off len cap i l cl : Nat} {an : Option Addr} {cn : Nat} {P ys : List Int} (hn : Seg lo' W (.slice an ys.length cn) ys) (hsep : ∀ g o, an = some ⟨g, o, none⟩ → g ≠ b)
    (hP : Seg lo W (.slice (some ⟨b, off, none⟩) len cap) P) (hl1 : ys.length ≤ l) (him : i + l ≤ len) (hlen : len ≤ 20000) :
    Calls Tryz.prog 98 #[.slice (some ⟨b, off + i, none⟩) l cl, .slice an ys.length cn] W fun e W' => ∃ (c : Int) (P' : List Int), e = .returned (.tuple #[]) ∧
      Seg lo W' (.slice (some ⟨b, off, none⟩) len cap) P' ∧ val P' + pw (i + ys.length) * c = val P + pw i * val ys ∧ (∀ j, j < i ∨ i + ys.length ≤ j → P'[j]?.getD 0 = P[j]?.getD 0) ∧ Turns b W W' := by
  have hwy := hn.words
  obtain ⟨m, hm⟩ : ∃ m, ys.length = m := ⟨_, rfl⟩
  have HM := hide hm
  rw [hm] at hl1 hn ⊢
  clear hm
  go_enter Tryz.func98, Tryz.ntmps98
  go_wp2
  go_loopw [4, 5] (fun j c wr => ∃ (k : Nat) (cv : Int) (ss : List Int), k ≤ m ∧ j = .int .i64 k ∧ c = .int .u64 cv ∧ (0 ≤ cv ∧ cv ≤ 1) ∧ Seg lo wr (.slice (some ⟨b, off, none⟩) len cap) ss ∧ Hid (val ss + pw (i + k) * cv = val P + pw i * val (ys.take k)) ∧ Hid (∀ j, j < i ∨ i + k ≤ j → ss[j]?.getD 0 = P[j]?.getD 0) ∧ Turns b W wr) (fun j _ _ => m - (intOf j).toNat)
  case atStart =>
    refine ⟨0, 0, P, Nat.zero_le _, rfl, rfl, by omega, hP, ?_, fun _ _ => rfl, Turns.refl _ _⟩
    rw [Hid, List.take_zero, val_nil]; simp
  case round =>
    obtain ⟨k, cv, ss, hk, rfl, rfl, hc, hss, HE, HT, hbr⟩ := hrel
    have HL := hide hss.len.1
    have hws := hss.words
    by_cases hkm : k < m
    · obtain ⟨g, o2, rfl, _, _⟩ := hn.row (by omega)
      have hsr := hn.turns hbr (hsep g o2 rfl)
      have hyc := (hsr.cell (j := k) hkm).1
      have hlo := (hss.row (by omega))
      obtain ⟨hce, hfr⟩ := hss.cell (j := i + k) (by omega)
      rw [← Nat.add_assoc] at hce hfr
      have hwk := hws.getD (i + k)
      have hyk := hwy.getD k
      have H1 := hide (back_step (by have := HL.out; omega) (by have := HM.out; omega) HE.out)
      have HS := fun (x : Int) (hx : 0 ≤ x ∧ x < 18446744073709551616) => hss.set (k := i + k) (by have := HL.out; omega) (x := x) hx
      rw [← Nat.add_assoc] at HS
      have HS := hide HS
      have HT' : Hid (∀ wd j, j < i ∨ i + (k + 1) ≤ j → (ss.set (i + k) wd)[j]?.getD 0 = P[j]?.getD 0) := fun wd j hj => by
        rw [List.getElem?_set_ne (by omega)]; exact HT.out j (by omega)
      have ha := fun w => add64 (ss[i + k]?.getD 0) (ys[k]?.getD 0) cv hwk.1 hyk.1 hc.1 hc.2 w
      clear hws hlo
      have hkl : (k : Int) < (l : Int) := by omega
      have hkm' : (k : Int) < (m : Int) := by omega
      generalize ys[k]?.getD 0 = y at *
      generalize ss[i + k]?.getD 0 = s at *
      go_wp2_with fail
      go_region_with (simp only [ha])
      all_goals
        go_wp2
        go_roundw
        case rel =>
          refine ⟨k + 1, _, _, by omega, by go_num, rfl, by omega, (HS.out _ (by omega)).drew, H1, HT'.out _, ?_⟩
          exact hbr.drew.setCell (off + i + k) _
        case measure => simp [intOf]; omega
    · obtain rfl : k = m := by omega
      go_wp2
      go_end0
      refine ⟨cv, ss, rfl, hss, ?_, HT.out, hbr⟩
      have := HE.out
      rwa [List.take_of_length_le (by have := HM.out; omega)] at this
end Go.Proofs.YtejocefblpkdjabGreat
