/-
  The walks of the document's quotients, the small ones: bit, twice, less.
-/
import Derived.Test.YtejocefblpkdjaaGreatSchool
import Derived.Test.YtejocefblpkdjaaGreatJWiden
import Derived.Test.YtejocefblpkdjaaGreatJRefA
import Derived.Test.YtejocefblpkdjaaGreatJRefD
import Derived.Test.YtejocefblpkdjaaGreatRefF
namespace Go.Proofs.YtejocefblpkdjaaGreat
open Go.RowKit

theorem ret_bool {a b : Bool} (h : a = b) : Ending.returned (.bool a) = .returned (.bool b) := by rw [h]
theorem bit_val {xs : List Int} (hw : Words xs) (p s : Nat) (hs : s < 64) : val xs / 2 ^ (64 * p + s) % 2 = xs[p]?.getD 0 / 2 ^ s % 2 := by
  rw [← pw_bits, ← Int.ediv_ediv_of_nonneg (Int.le_of_lt (pw_pos p)), ← val_drop_div hw, val_drop xs p]
  generalize xs[p]?.getD 0 = d
  generalize val (xs.drop (p + 1)) = v
  have hp := two_pos s
  have e : (18446744073709551616 : Int) = 2 ^ s * (2 * 2 ^ (63 - s)) := by
    have := two_split s (by omega)
    rw [show 64 - s = 63 - s + 1 by omega, Int.pow_succ] at this
    rw [← this]; ac_rfl
  rw [e, Int.mul_assoc, Int.add_mul_ediv_left _ _ (by omega), Int.mul_assoc]
  generalize (2 : Int) ^ (63 - s) * v = t
  omega

set_option maxRecDepth 100000 in
set_option maxHeartbeats 1000000 in
/-- The document's bit(n, i). -/
theorem rbit_any {lo : Nat} {a : Option Addr} {ca : Nat} {xs : List Int} {w : World} (h : Seg lo w (.slice a xs.length ca) xs) (hl : xs.length ≤ 10000) (i : Nat) (hi : i ≤ 1000000) :
    Calls Tryz.prog 128 #[.slice a xs.length ca, .int .i64 i] w fun e w' => e = .returned (.bool (decide (val xs / 2 ^ i % 2 = 1))) ∧ w' = w := by
  obtain ⟨p, s, hs, rfl⟩ : ∃ p s, s < 64 ∧ i = 64 * p + s := ⟨i / 64, i % 64, by omega, by omega⟩
  have hq1 : (64 * (p : Int) + (s : Int)) / 64 = p := by omega
  have hq2 : (64 * (p : Int) + (s : Int)) % 64 = s := by omega
  rw [bit_val h.words p s hs]
  obtain ⟨n, hn⟩ : ∃ n, xs.length = n := ⟨_, rfl⟩
  have hwp := h.words.getD p
  by_cases hp : p < xs.length
  · obtain ⟨g, o, rfl, _, _⟩ := h.row (by omega)
    have hc := (h.cell (j := p) hp).1
    rw [hn] at hp hl ⊢
    clear hn h
    have hpi : (p : Int) < (n : Int) := by omega
    generalize xs[p]?.getD 0 = d at *
    go_enter Tryz.func128, Tryz.ntmps128
    go_wp2
    go_ret
    exact ⟨ret_bool (by rw [Int.tmod_eq_emod_of_nonneg (Int.ediv_nonneg hwp.1 (Int.le_of_lt (two_pos s)))]; rfl), rfl⟩
  · have hz : xs[p]?.getD 0 = 0 := by rw [List.getElem?_eq_none (by omega)]; rfl
    rw [hz, Int.zero_ediv, hn]
    rw [hn] at hp hl
    have hpi : ¬ (p : Int) < (n : Int) := by omega
    clear hz hn h
    go_enter Tryz.func128, Tryz.ntmps128
    go_wp2
    go_ret
    exact ⟨rfl, rfl⟩
/-- copy(list, src), where the list is not shorter. -/
theorem seg_copy2 {lo L : Nat} {W : World} {b off len cap cn : Nat} {an : Option Addr} {P xs : List Int} (hP : Seg L W (.slice (some ⟨b, off, none⟩) len cap) P) (hs : Seg lo W (.slice an xs.length cn) xs) (hl : xs.length ≤ len) (h0 : 0 < len) :
    ∃ w', (Builtin.copy_ #[23, 23] 3 #[.slice (some ⟨b, off, none⟩) len cap, .slice an xs.length cn]).run Tryz.prog W = .ok (goInt xs.length) w' ∧ Seg L w' (.slice (some ⟨b, off, none⟩) len cap) (xs ++ P.drop xs.length) ∧ Turns b W w' := by
  obtain ⟨i0, hi, hz0, hz1, hz2⟩ := info_parts infoU64
  have hsz : (Tryz.prog.info? 78).map (·.size) = some 1 := by rw [hi]; simp [hz1]
  by_cases hx : xs = []
  · subst hx
    exact ⟨W, run_copy_none W 23 23 3 78 _ _ _ _ _ _ Tryz.underlying23 hsz (by simp), by simpa using hP, Turns.refl _ _⟩
  · have hp : 0 < xs.length := List.length_pos_iff.2 hx
    obtain ⟨g, o, rfl, _, _⟩ := hs.row hp
    have hcl : ∀ j, j < len → W.cell? ⟨b, off + j, none⟩ = some (.int .u64 (P[j]?.getD 0)) ∧ W.frozen? ⟨b, off + j, none⟩ = false := fun j hj => hP.cell hj
    have hr := run_copy_cells (P := Tryz.prog) W 23 23 3 78 b off len cap ⟨g, o, none⟩ xs.length cn (xs.map (Value.int .u64)) Tryz.underlying23 hsz (by rw [List.length_map]; exact (Nat.min_eq_left hl).symm)
      (fun j v hj => by
        rw [List.getElem?_map] at hj
        obtain ⟨z, hz', rfl⟩ := Option.map_eq_some_iff.1 hj
        have hjl : j < xs.length := (List.getElem?_eq_some_iff.1 hz').1
        have := (hs.cell (j := j) hjl).1
        rw [hz'] at this
        rw [Addr.add_lit]
        exact this)
      (fun j hj => by rw [List.length_map] at hj; rw [(hcl j (by omega)).1]; rfl) (fun j hj => by rw [List.length_map] at hj; exact (hcl j (by omega)).2) (fun v hv => by obtain ⟨z, _, rfl⟩ := List.mem_map.1 hv; rfl)
    rw [List.length_map] at hr
    obtain ⟨hlen, hcap⟩ := hP.len
    obtain ⟨b', o', eb, hLb, hbs⟩ := hP.row h0
    simp only [Option.some.injEq, Addr.mk.injEq] at eb
    obtain ⟨rfl, rfl, _⟩ := eb
    have hll : (xs ++ P.drop xs.length).length = len := by rw [List.length_append, List.length_drop]; omega
    have hbel : Turns b W (W.setCells b off (xs.map (Value.int .u64))) := by
      have : ∀ (vs : List Value) (o : Nat) (w : World), Turns b W w → Turns b W (w.setCells b o vs) := fun vs => by
        induction vs with
        | nil => intro o w h; exact h
        | cons v vs ih => intro o w h; exact ih (o + 1) _ (h.setCell o v)
      exact this _ _ _ (Turns.refl _ _)
    refine ⟨_, hr, ⟨hs.words.append (hP.words.drop _), _, _, by rw [hll], by rw [hll]; exact hcap, fun _ => ⟨b, off, rfl, hLb, Nat.lt_of_lt_of_le hbs hbel.below.size, fun j hj => ?_, fun j hj => ?_⟩⟩, hbel⟩
    · rw [hll] at hj
      by_cases hjx : j < xs.length
      · have := World.cell?_setCells_in b (xs.map (Value.int .u64)) off W (fun i hi => by rw [List.length_map] at hi; rw [(hcl i (by omega)).1]; rfl) j (by rw [List.length_map]; exact hjx)
        rw [this, List.getElem?_append_left hjx, List.getElem_map, List.getElem?_eq_getElem hjx]; rfl
      · rw [World.cell?_setCells_out b _ off W ⟨b, off + j, none⟩ (fun _ _ => by rw [List.length_map]; right; show off + xs.length ≤ off + j; omega), (hcl j hj).1, List.getElem?_append_right (by omega), List.getElem?_drop]
        rw [show xs.length + (j - xs.length) = j by omega]
    · rw [hll] at hj
      rw [World.frozen?_setCells]; exact (hcl j hj).2
/-- A word, moved up by one, and what came from below. -/
theorem twice_word (x c : Int) (hx : 0 ≤ x ∧ x < 18446744073709551616) (hc : 0 ≤ c ∧ c ≤ 1) : bits .or .u64 (IntKind.u64.wrap (x * 2)) c = x * 2 % 18446744073709551616 + c ∧ (0 ≤ x * 2 % 18446744073709551616 + c ∧ x * 2 % 18446744073709551616 + c < 18446744073709551616) := by
  rw [IntKind.wrap_u64]
  obtain ⟨n, rfl⟩ := Int.eq_ofNat_of_zero_le hx.1
  obtain ⟨d, rfl⟩ := Int.eq_ofNat_of_zero_le hc.1
  obtain ⟨m, hm⟩ : ∃ m : Nat, (n : Int) * 2 % 18446744073709551616 = ((m * 2 ^ 1 : Nat) : Int) := ⟨n * 2 % 18446744073709551616 / 2, by omega⟩
  rw [hm]
  refine ⟨?_, by omega⟩
  rw [bits_or_u64_nat (m * 2 ^ 1) d (by omega) (by omega), Nat.or_comm, or_low d m 1 (by omega)]
  omega
theorem twice_step {P ss : List Int} {k : Nat} {c lv : Int} (hk : k < ss.length) (hk' : k < P.length) (e : val (ss.take k) + pw k * lv = 2 * val (P.take k) + c) :
    val ((ss.set k (P[k]?.getD 0 * 2 % 18446744073709551616 + lv)).take (k + 1)) + pw (k + 1) * (P[k]?.getD 0 / 9223372036854775808) = 2 * val (P.take (k + 1)) + c := by
  have h1 : (ss.set k (P[k]?.getD 0 * 2 % 18446744073709551616 + lv)).take (k + 1) = ss.take k ++ [P[k]?.getD 0 * 2 % 18446744073709551616 + lv] := by
    rw [List.take_succ_eq_append_getElem (by rw [List.length_set]; exact hk), List.getElem_set_self, List.take_set_of_le (Nat.le_refl _)]
  rw [h1, val_snoc, List.length_take, Nat.min_eq_left (Nat.le_of_lt hk), val_take_succ P k hk', pw_succ]
  generalize P[k]?.getD 0 = x at *
  have d : x * 2 % 18446744073709551616 + 18446744073709551616 * (x / 9223372036854775808) = 2 * x := by omega
  have m : pw k * (x * 2 % 18446744073709551616 + 18446744073709551616 * (x / 9223372036854775808)) = pw k * (2 * x) := by rw [d]
  rw [Int.mul_add, ← Int.mul_assoc (pw k) 18446744073709551616, Int.mul_comm (pw k) 18446744073709551616] at m
  rw [Int.mul_add (pw k), Int.mul_add 2, Int.mul_left_comm 2 (pw k) x]
  omega

set_option maxRecDepth 100000 in
set_option maxHeartbeats 1000000 in
/-- The document's twice(n, one), where there is room. -/
theorem rtwice_any {lo : Nat} {W : World} {b off len cap : Nat} {P : List Int} (hP : Seg lo W (.slice (some ⟨b, off, none⟩) len cap) P) (hlen : len ≤ 20000) (one : Bool) (hfit : 2 * val P + 1 < pw len) :
    Calls Tryz.prog 127 #[.slice (some ⟨b, off, none⟩) len cap, .bool one] W fun e W' => ∃ P', e = .returned (.tuple #[]) ∧ Seg lo W' (.slice (some ⟨b, off, none⟩) len cap) P' ∧ val P' = 2 * val P + (one.toNat : Int) ∧ Turns b W W' := by
  have HF := hide hfit
  have hwP := hP.words
  have HL0 := hide hP.len.1
  clear hfit
  cases one with
  | false =>
    go_enter Tryz.func127, Tryz.ntmps127
    go_wp2
    go_loopw [4, 5] (fun lst i wr => ∃ (k : Nat) (lv : Int) (ss : List Int), k ≤ len ∧ i = .int .i64 k ∧ lst = .int .u64 lv ∧ (0 ≤ lv ∧ lv ≤ 1) ∧ Seg lo wr (.slice (some ⟨b, off, none⟩) len cap) ss ∧ Hid (val (ss.take k) + pw k * lv = 2 * val (P.take k) + 0) ∧ Hid (∀ j, k ≤ j → ss[j]?.getD 0 = P[j]?.getD 0) ∧ Turns b W wr) (fun _ i _ => len - (intOf i).toNat)
    case atStart => exact ⟨0, 0, P, Nat.zero_le _, rfl, rfl, by omega, hP, by rw [Hid, List.take_zero, val_nil, pw_zero]; rfl, fun _ _ => rfl, Turns.refl _ _⟩
    case round =>
      obtain ⟨k, lv, ss, hk, rfl, rfl, hlv, hss, HE, HT, htr⟩ := hrel
      have HL := hide hss.len.1
      by_cases hkl : k < len
      · obtain ⟨hce, hfr⟩ := hss.cell (j := k) hkl
        have HX := HT.out k (Nat.le_refl _)
        have hx := hwP.getD k
        have H1 := hide (twice_step (by have := HL.out; omega) (by have := HL0.out; omega) HE.out)
        rw [HX] at hce
        obtain ⟨e1, hw1⟩ := twice_word (P[k]?.getD 0) lv hx hlv
        have HS := hide (hss.set (k := k) (by have := HL.out; omega) hw1)
        rw [← e1] at HS H1
        have HT' : Hid (∀ j, k + 1 ≤ j → (ss.set k (bits .or .u64 (IntKind.u64.wrap (P[k]?.getD 0 * 2)) lv))[j]?.getD 0 = P[j]?.getD 0) := fun j hj => by
          rw [List.getElem?_set_ne (by omega)]; exact HT.out j (by omega)
        have hki : (k : Int) < (len : Int) := by omega
        clear HX e1 hw1 hwP
        generalize P[k]?.getD 0 = x at *
        go_wp2
        exact ⟨⟨k + 1, _, _, by omega, by go_num, rfl, by omega, HS.out, H1, HT', htr.setCell _ _⟩, by simp [intOf]; omega⟩
      · obtain rfl : k = len := by omega
        go_wp2
        go_end0
        have e := HE.out
        rw [List.take_of_length_le (by have := HL.out; omega), List.take_of_length_le (by have := HL0.out; omega)] at e
        have hz : lv = 0 := Classical.byContradiction fun h => by
          obtain rfl : lv = 1 := by omega
          have := HF.out
          have := val_nonneg hss.words
          omega
        rw [hz, Int.mul_zero, Int.add_zero] at e
        exact ⟨ss, rfl, hss, e, htr⟩
  | true =>
    go_enter Tryz.func127, Tryz.ntmps127
    go_wp2
    go_loopw [4, 5] (fun lst i wr => ∃ (k : Nat) (lv : Int) (ss : List Int), k ≤ len ∧ i = .int .i64 k ∧ lst = .int .u64 lv ∧ (0 ≤ lv ∧ lv ≤ 1) ∧ Seg lo wr (.slice (some ⟨b, off, none⟩) len cap) ss ∧ Hid (val (ss.take k) + pw k * lv = 2 * val (P.take k) + 1) ∧ Hid (∀ j, k ≤ j → ss[j]?.getD 0 = P[j]?.getD 0) ∧ Turns b W wr) (fun _ i _ => len - (intOf i).toNat)
    case atStart => exact ⟨0, 1, P, Nat.zero_le _, rfl, rfl, by omega, hP, by rw [Hid, List.take_zero, val_nil, pw_zero]; rfl, fun _ _ => rfl, Turns.refl _ _⟩
    case round =>
      obtain ⟨k, lv, ss, hk, rfl, rfl, hlv, hss, HE, HT, htr⟩ := hrel
      have HL := hide hss.len.1
      by_cases hkl : k < len
      · obtain ⟨hce, hfr⟩ := hss.cell (j := k) hkl
        have HX := HT.out k (Nat.le_refl _)
        have hx := hwP.getD k
        have H1 := hide (twice_step (by have := HL.out; omega) (by have := HL0.out; omega) HE.out)
        rw [HX] at hce
        obtain ⟨e1, hw1⟩ := twice_word (P[k]?.getD 0) lv hx hlv
        have HS := hide (hss.set (k := k) (by have := HL.out; omega) hw1)
        rw [← e1] at HS H1
        have HT' : Hid (∀ j, k + 1 ≤ j → (ss.set k (bits .or .u64 (IntKind.u64.wrap (P[k]?.getD 0 * 2)) lv))[j]?.getD 0 = P[j]?.getD 0) := fun j hj => by
          rw [List.getElem?_set_ne (by omega)]; exact HT.out j (by omega)
        have hki : (k : Int) < (len : Int) := by omega
        clear HX e1 hw1 hwP
        generalize P[k]?.getD 0 = x at *
        go_wp2
        exact ⟨⟨k + 1, _, _, by omega, by go_num, rfl, by omega, HS.out, H1, HT', htr.setCell _ _⟩, by simp [intOf]; omega⟩
      · obtain rfl : k = len := by omega
        go_wp2
        go_end0
        have e := HE.out
        rw [List.take_of_length_le (by have := HL.out; omega), List.take_of_length_le (by have := HL0.out; omega)] at e
        have hz : lv = 0 := Classical.byContradiction fun h => by
          obtain rfl : lv = 1 := by omega
          have := HF.out
          have := val_nonneg hss.words
          omega
        rw [hz, Int.mul_zero, Int.add_zero] at e
        exact ⟨ss, rfl, hss, e, htr⟩

set_option maxRecDepth 100000 in
set_option maxHeartbeats 1000000 in
/-- The document's less(n, b), where b is not greater. -/
theorem rless_any {lo lo' : Nat} {W : World} {b off len cap : Nat} {P ys : List Int} {bb : Option Addr} {cb : Nat} (hP : Seg lo W (.slice (some ⟨b, off, none⟩) len cap) P) (hb : Seg lo' W (.slice bb ys.length cb) ys) (hlen : len ≤ 10000) (hly : ys.length ≤ 10000) (h0 : 0 < len) (hle : val ys ≤ val P) :
    Calls Tryz.prog 129 #[.slice (some ⟨b, off, none⟩) len cap, .slice bb ys.length cb] W fun e W' => ∃ P', e = .returned (.tuple #[]) ∧ Seg lo W' (.slice (some ⟨b, off, none⟩) len cap) P' ∧ val P' = val P - val ys ∧ Turns b W W' := by
  have HL0 := hide hP.len.1
  have hbW := hP.block (List.length_pos_iff.1 (by rw [← HL0.out]; exact h0)) b off rfl
  have hsub := rsub_yes (xs := P) (ca := cap) (a := some ⟨b, off, none⟩) (by rw [← HL0.out]; exact hP) hb (by rw [← HL0.out]; exact hlen) hly hle
  rw [← HL0.out] at hsub
  clear hle
  go_enter Tryz.func129, Tryz.ntmps129
  go_wp2_with fail
  refine hsub.mono ?_
  rintro e w1 ⟨a1, c1, ds, rfl, hs1, hn1, hv1, hl1, hb1⟩
  have HV1 := hide hv1
  have ht1 : Turns b W w1 := Turns.of_below (Nat.le_of_lt hbW) hb1
  have hP1 := hP.below hb1
  clear hsub hv1
  go_wp2
  go_loopw [6] (fun i wr => ∃ (k : Nat) (ss : List Int), k ≤ len ∧ i = .int .i64 k ∧ Seg lo wr (.slice (some ⟨b, off, none⟩) len cap) ss ∧ Hid (∀ j, j < k → ss[j]?.getD 0 = 0) ∧ Turns b w1 wr) (fun i _ => len - (intOf i).toNat)
  case atStart => exact ⟨0, P, Nat.zero_le _, rfl, hP1, fun j hj => by omega, Turns.refl _ _⟩
  case round =>
    obtain ⟨k, ss, hk, rfl, hss, HZ, htr⟩ := hrel
    have HL := hide hss.len.1
    by_cases hkl : k < len
    · obtain ⟨hce, hfr⟩ := hss.cell (j := k) hkl
      have HS := hide (hss.set (k := k) (by have := HL.out; omega) (x := 0) (by decide))
      have HZ' : Hid (∀ j, j < k + 1 → (ss.set k 0)[j]?.getD 0 = 0) := fun j hj => by
        by_cases e : j = k
        · subst e; rw [List.getElem?_set_self (by have := HL.out; omega)]; rfl
        · rw [List.getElem?_set_ne (by omega)]; exact HZ.out j (by omega)
      have hki : (k : Int) < (len : Int) := by omega
      generalize ss[k]?.getD 0 = x at *
      go_wp2
      exact ⟨⟨k + 1, _, by omega, by go_num, HS.out, HZ', htr.setCell _ _⟩, by simp [intOf]; omega⟩
    · obtain rfl : k = len := by omega
      obtain ⟨w2, hcp, hs2, ht2⟩ := seg_copy2 hss (hs1.turns_lo htr hbW) (by have := HL0.out; omega) h0
      have HF : Hid (val (ds ++ ss.drop ds.length) = val P - val ys) := by
        rw [Hid, val_append, HV1.out, val_of_zeros (zs := ss.drop ds.length) (fun j hj => by
          rw [List.length_drop] at hj
          rw [List.getElem?_drop]; exact HZ.out _ (by have := HL.out; omega))]
        omega
      clear HZ
      go_wp2_with (at_builtin; refine Lib.wpList_copy_run _ rfl _ _ 23 23 rfl _ _ rfl rfl hcp ?_)
      go_end0
      exact ⟨_, rfl, hs2, HF.out, ht1.trans (htr.trans ht2)⟩
end Go.Proofs.YtejocefblpkdjaaGreat
