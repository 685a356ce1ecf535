/-
  The walks of the program's addRow and addAt: sums into a list of one's own.
-/
import Derived.Test.YtejocefblpkdjabGreatJRefA
import Derived.Test.YtejocefblpkdjabGreatProd
namespace Go.Proofs.YtejocefblpkdjabGreat
open Go.RowKit

/-- One digit of a row: what is written, what is carried. -/
theorem digit_step {s x y c : Int} (hs : 0 ≤ s ∧ s < 18446744073709551616) (hx : 0 ≤ x ∧ x < 18446744073709551616) (hy : 0 ≤ y ∧ y < 18446744073709551616) (hc : 0 ≤ c ∧ c < 18446744073709551616) :
    ∃ hi lo l1 o1 wd o2, x * y / 18446744073709551616 = hi ∧ x * y % 18446744073709551616 = lo ∧ (lo + c + 0) % 18446744073709551616 = l1 ∧ (lo + c + 0) / 18446744073709551616 = o1 ∧ (s + l1 + 0) % 18446744073709551616 = wd ∧ (s + l1 + 0) / 18446744073709551616 = o2 ∧
      0 ≤ lo ∧ 0 ≤ l1 ∧ (0 ≤ wd ∧ wd < 18446744073709551616) ∧ (0 ≤ hi + o1 ∧ hi + o1 < 18446744073709551616) ∧ (0 ≤ hi + o1 + o2 ∧ hi + o1 + o2 < 18446744073709551616) ∧ wd + 18446744073709551616 * (hi + o1 + o2) = s + x * y + c := by
  have h1 : 0 ≤ x * y := Int.mul_nonneg hx.1 hy.1
  have h2 : x * y ≤ 18446744073709551615 * 18446744073709551615 := Int.mul_le_mul (by omega) (by omega) hy.1 (by omega)
  generalize x * y = p at *
  exact ⟨_, _, _, _, _, _, rfl, rfl, rfl, rfl, rfl, rfl, by omega, by omega, by omega, by omega, by omega, by omega⟩
theorem row_step {P ys : List Int} {i k : Nat} {x c t wd c' : Int} (h : i + k < P.length) (hk : k < ys.length) (e : val P + pw (i + k) * c = t + pw i * (x * val (ys.take k)))
    (key : wd + 18446744073709551616 * c' = P[i + k]?.getD 0 + x * ys[k]?.getD 0 + c) : val (P.set (i + k) wd) + pw (i + k + 1) * c' = t + pw i * (x * val (ys.take (k + 1))) := by
  have e1 : pw i * (x * val (ys.take (k + 1))) = pw i * (x * val (ys.take k)) + pw (i + k) * (x * ys[k]?.getD 0) := by
    rw [val_take_succ ys k hk, Int.mul_add, Int.mul_add, pw_add, Int.mul_assoc, Int.mul_left_comm x]
  have e2 := val_set h wd
  have e3 : pw (i + k) * (wd + 18446744073709551616 * c') = pw (i + k) * (P[i + k]?.getD 0 + x * ys[k]?.getD 0 + c) := by rw [key]
  rw [e1, e2, pw_succ]
  generalize pw (i + k) = q at *
  generalize x * ys[k]?.getD 0 = xy at *
  generalize P[i + k]?.getD 0 = s at *
  rw [Int.mul_add, Int.mul_add, Int.mul_add] at e3
  rw [Int.mul_sub, Int.mul_comm 18446744073709551616 q, Int.mul_assoc]
  omega

set_option maxRecDepth 100000 in
set_option maxHeartbeats 2000000 in
/-- addRow(sum, n, x), where sum is a list from its place i on. -/
theorem addRow_any {lo' : Nat} {w0 W : World} {b off len cap i l cl : Nat} {an : Option Addr} {cn : Nat} {P ys : List Int} {x : Int} (hn : Seg lo' w0 (.slice an ys.length cn) ys) (hW : Below w0.heap.size w0 W)
    (hP : Seg w0.heap.size W (.slice (some ⟨b, off, none⟩) len cap) P) (him : i + ys.length ≤ len) (hl : l = len - i) (hx : 0 ≤ x ∧ x < 18446744073709551616) (hlen : len ≤ 20000) :
    Calls Tryz.prog 99 #[.slice (some ⟨b, off + i, none⟩) l cl, .slice an ys.length cn, .int .u64 x] W fun e W' => ∃ (c : Int) (P' : List Int), e = .returned (.int .u64 c) ∧ (0 ≤ c ∧ c < 18446744073709551616) ∧
      Seg w0.heap.size W' (.slice (some ⟨b, off, none⟩) len cap) P' ∧ val P' + pw (i + ys.length) * c = val P + pw i * (x * val ys) ∧ (∀ j, i + ys.length ≤ j → P'[j]?.getD 0 = P[j]?.getD 0) ∧ Below w0.heap.size w0 W' := by
  have hwy := hn.words
  obtain ⟨m, hm⟩ : ∃ m, ys.length = m := ⟨_, rfl⟩
  have HM := hide hm
  have HLI := hide hl
  clear hl
  rw [hm] at him hn ⊢
  clear hm
  go_enter Tryz.func99, Tryz.ntmps99
  go_wp2
  go_loopw [7, 15] (fun c j wr => ∃ (k : Nat) (cv : Int) (ss : List Int), k ≤ m ∧ j = .int .i64 k ∧ c = .int .u64 cv ∧ (0 ≤ cv ∧ cv < 18446744073709551616) ∧ Seg w0.heap.size wr (.slice (some ⟨b, off, none⟩) len cap) ss ∧ Hid (val ss + pw (i + k) * cv = val P + pw i * (x * val (ys.take k))) ∧ Hid (∀ j, i + k ≤ j → ss[j]?.getD 0 = P[j]?.getD 0) ∧ Below w0.heap.size w0 wr) (fun _ j _ => m - (intOf j).toNat)
  case atStart =>
    refine ⟨0, 0, P, Nat.zero_le _, rfl, rfl, by omega, hP, ?_, fun _ _ => rfl, hW⟩
    rw [Hid, List.take_zero, val_nil]; simp
  case round =>
    obtain ⟨k, cv, ss, hk, rfl, rfl, hc, hss, HE, HT, hbr⟩ := hrel
    have hsr := hn.below hbr
    have HL := hide hss.len.1
    have hws := hss.words
    by_cases hkm : k < m
    · obtain ⟨g, o2, rfl, _, _⟩ := hsr.row (by omega)
      have hyc := (hsr.cell (j := k) hkm).1
      have hlo := (hss.row (by omega))
      obtain ⟨hce, hfr⟩ := hss.cell (j := i + k) (by omega)
      rw [← Nat.add_assoc] at hce hfr
      have hwk := hws.getD (i + k)
      have hyk := hwy.getD k
      obtain ⟨hi, lo, l1, o1, wd, o2, e1, e2, e3, e4, e5, e6, hlo0, hl1, hwd, hh1, hc', key⟩ := digit_step hwk hx hyk hc
      have H1 := hide (row_step (by have := HL.out; omega) (by have := HM.out; omega) HE.out key)
      have HS := hide ((hss).set (k := i + k) (by have := HL.out; omega) hwd)
      rw [← Nat.add_assoc] at HS
      have hb0 : w0.heap.size ≤ b := by obtain ⟨b', o', e, h1, _⟩ := hlo; cases e; exact h1
      have HT' : Hid (∀ j, i + (k + 1) ≤ j → (ss.set (i + k) wd)[j]?.getD 0 = P[j]?.getD 0) := fun j hj => by
        rw [List.getElem?_set_ne (by omega)]; exact HT.out j (by omega)
      have hmul := fun w => mul64_any x (ys[k]?.getD 0) hx hyk w
      have ha1 := fun w => add64 lo cv 0 hlo0 hc.1 (by decide) (by decide) w
      have ha2 := fun w => add64 (ss[i + k]?.getD 0) l1 0 hwk.1 hl1 (by decide) (by decide) w
      rw [e1, e2] at hmul
      rw [e3, e4] at ha1
      rw [e5, e6] at ha2
      clear hws key hlo e1 e2 e3 e4 e5 e6 hlo0 hl1 hyk hwk
      have hkl : (k : Int) < (l : Int) := by have := HLI.out; omega
      have hkm' : (k : Int) < (m : Int) := by omega
      generalize ys[k]?.getD 0 = y at *
      generalize ss[i + k]?.getD 0 = s at *
      go_wp2_with (first | (go_at_call 105; refine (hmul _).mono ?_; rintro e w' ⟨rfl, rfl⟩))
      refine ⟨⟨k + 1, _, _, by omega, by go_num, rfl, hc', HS.out, H1, HT', ?_⟩, by simp [intOf]; omega⟩
      exact hbr.setCell (p := ⟨b, off + i + k, none⟩) hb0 _
    · obtain rfl : k = m := by omega
      go_wp2
      go_ret
      refine ⟨_, ss, rfl, hc, hss, ?_, HT.out, hbr⟩
      have := HE.out
      rwa [List.take_of_length_le (by have := HM.out; omega)] at this

/-- One step of a sum, p places up. -/
theorem add_step_at {ss ys : List Int} {p k : Nat} {c t : Int} (h : p + k < ss.length) (e : val ss + pw (p + k) * (c + val (ys.drop k)) = t) :
    val (ss.set (p + k) ((ss[p + k]?.getD 0 + ys[k]?.getD 0 + c) % 18446744073709551616)) + pw (p + (k + 1)) * ((ss[p + k]?.getD 0 + ys[k]?.getD 0 + c) / 18446744073709551616 + val (ys.drop (k + 1))) = t := by
  have hs := val_set h ((ss[p + k]?.getD 0 + ys[k]?.getD 0 + c) % 18446744073709551616)
  rw [val_drop ys k] at e
  rw [hs, ← e, ← Nat.add_assoc, pw_succ]
  generalize ss[p + k]?.getD 0 = s
  generalize ys[k]?.getD 0 = y
  generalize val (ys.drop (k + 1)) = v
  generalize pw (p + k) = q
  rw [Int.add_assoc, Int.mul_comm 18446744073709551616 q, Int.mul_assoc, ← Int.mul_add]
  congr 2
  omega
theorem Norm.drop {zs : List Int} (h : Norm zs) : ∀ k, Norm (zs.drop k)
  | 0 => h
  | k + 1 => by
    by_cases hk : k < zs.length
    · have := Norm.drop h k
      rw [List.drop_eq_getElem_cons hk] at this
      exact this.tail
    · rw [List.drop_eq_nil_of_le (by omega)]; exact norm_nil
/-- There is room for what is added. -/
theorem at_room {ss ys : List Int} {len p k : Nat} {c t : Int} (hs : Words ss) (hy : Words ys) (hn : Norm ys) (hc : 0 ≤ c) (h : k < ys.length ∨ c ≠ 0) (e : val ss + pw (p + k) * (c + val (ys.drop k)) = t) (ht : t < pw len) : p + k < len := by
  rcases Nat.lt_or_ge (p + k) len with h1 | h1
  · exact h1
  · exfalso
    have a := val_nonneg hs
    have b := pw_mono h1
    have q := pw_pos (p + k)
    have d := val_nonneg (hy.drop k)
    have f : 1 ≤ c + val (ys.drop k) := by
      by_cases hk : k < ys.length
      · have := norm_pos (hy.drop k) (hn.drop k) (by intro e; have := congrArg List.length e; rw [List.length_drop] at this; simp at this; omega)
        omega
      · have := h.resolve_left hk
        omega
    have : pw (p + k) * 1 ≤ pw (p + k) * (c + val (ys.drop k)) := Int.mul_le_mul_of_nonneg_left f (by omega)
    omega

set_option maxRecDepth 100000 in
set_option maxHeartbeats 2000000 in
/-- addAt(sum, n, place), where the sum has room. -/
theorem addAt_any {lo' : Nat} {w0 W : World} {b off len cap p : Nat} {an : Option Addr} {cn : Nat} {P ys : List Int} (hn : Seg lo' w0 (.slice an ys.length cn) ys) (hnn : Norm ys) (hW : Below w0.heap.size w0 W)
    (hP : Seg w0.heap.size W (.slice (some ⟨b, off, none⟩) len cap) P) (hp : p ≤ 100000) (hlen : len ≤ 100000) (hyl : ys.length ≤ 100000) (hfit : val P + pw p * val ys < pw len) :
    Calls Tryz.prog 100 #[.slice (some ⟨b, off, none⟩) len cap, .slice an ys.length cn, .int .i64 p] W fun e W' => ∃ (P' : List Int), e = .returned (.tuple #[]) ∧
      Seg w0.heap.size W' (.slice (some ⟨b, off, none⟩) len cap) P' ∧ val P' = val P + pw p * val ys ∧ Below w0.heap.size w0 W' := by
  have hwy := hn.words
  obtain ⟨m, hm⟩ : ∃ m, ys.length = m := ⟨_, rfl⟩
  have HM := hide hm
  have HF := hide hfit
  rw [hm] at hn hyl ⊢
  clear hm hfit
  go_enter Tryz.func100, Tryz.ntmps100
  go_wp2
  go_loopw [6, 7] (fun i c wr => ∃ (k : Nat) (cv : Int) (ss : List Int), k ≤ max len m ∧ i = .int .i64 k ∧ c = .int .u64 cv ∧ (0 ≤ cv ∧ cv ≤ 1) ∧ Seg w0.heap.size wr (.slice (some ⟨b, off, none⟩) len cap) ss ∧ Hid (val ss + pw (p + k) * (cv + val (ys.drop k)) = val P + pw p * val ys) ∧ Below w0.heap.size w0 wr) (fun i _ _ => len + m + 2 - (intOf i).toNat)
  case atStart =>
    refine ⟨0, 0, P, Nat.zero_le _, rfl, rfl, by omega, hP, ?_, hW⟩
    rw [Hid, List.drop_zero, Int.zero_add]; rfl
  case round =>
    obtain ⟨k, cv, ss, hk, rfl, rfl, hc, hss, HE, hbr⟩ := hrel
    have hsr := hn.below hbr
    have HL := hide hss.len.1
    have hws := hss.words
    have hwk := hws.getD (p + k)
    have hyk := hwy.getD k
    by_cases hgo : k < m ∨ cv ≠ 0
    · have hpk : p + k < len := at_room hws hwy hnn hc.1 (by rw [HM.out]; exact hgo) HE.out HF.out
      have hlo := (hss.row (by omega))
      obtain ⟨hce, hfr⟩ := hss.cell (j := p + k) (by omega)
      have hb0 : w0.heap.size ≤ b := by obtain ⟨b', o', e, h1, _⟩ := hlo; cases e; exact h1
      have H1 := hide (add_step_at (by have := HL.out; omega) HE.out)
      have HS := fun (x : Int) (hx : 0 ≤ x ∧ x < 18446744073709551616) => hss.set (k := p + k) (by have := HL.out; omega) (x := x) hx
      have HS := hide HS
      have hpw : IntKind.i64.wrap ((p : Int) + (k : Int)) = (p : Int) + (k : Int) := by rw [IntKind.wrap_i64]; omega
      have hpl : (p : Int) + (k : Int) < (len : Int) := by omega
      have hp0 : (0 : Int) ≤ (p : Int) + (k : Int) := by omega
      have hpn : ((p : Int) + (k : Int)).toNat = p + k := by omega
      have ha := fun w => add64 (ss[p + k]?.getD 0) (ys[k]?.getD 0) cv hwk.1 hyk.1 hc.1 hc.2 w
      have hym := (hsr.at k)
      clear hws hlo
      by_cases hkm : k < m
      · obtain ⟨g, o2, rfl, hyc⟩ := hym.2.1 hkm
        clear hym hgo
        have hki : (k : Int) < (m : Int) := by omega
        generalize ys[k]?.getD 0 = y at *
        generalize ss[p + k]?.getD 0 = s at *
        go_wp2
        refine ⟨⟨k + 1, _, _, by omega, by go_num, rfl, by omega, HS.out _ (by omega), H1, ?_⟩, by simp [intOf]; omega⟩
        exact hbr.setCell (p := ⟨b, off + (p + k), none⟩) hb0 _
      · have hcb : (cv != 0) = true := by have := hgo.resolve_left hkm; simpa using this
        have hy0 : ys[k]?.getD 0 = 0 := hym.2.2 (by omega)
        rw [hy0, Int.add_zero] at ha H1
        clear hym hgo hy0
        have hki : ¬ (k : Int) < (m : Int) := by omega
        generalize ss[p + k]?.getD 0 = s at *
        go_wp2
        refine ⟨⟨k + 1, _, _, by omega, by go_num, rfl, by omega, HS.out _ (by omega), H1, ?_⟩, by simp [intOf]; omega⟩
        exact hbr.setCell (p := ⟨b, off + (p + k), none⟩) hb0 _
    · have hkm : ¬ k < m := fun h => hgo (.inl h)
      have hcz : cv = 0 := Classical.byContradiction fun h => hgo (.inr h)
      subst hcz
      clear hgo hws hwk hyk
      go_wp2
      go_end0
      refine ⟨ss, rfl, hss, ?_, hbr⟩
      have := HE.out
      rwa [List.drop_eq_nil_of_le (by have := HM.out; omega), val_nil, Int.add_zero, Int.mul_zero, Int.add_zero] at this
end Go.Proofs.YtejocefblpkdjabGreat
