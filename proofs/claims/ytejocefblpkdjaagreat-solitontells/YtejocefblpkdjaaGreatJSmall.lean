/-
  Joined: Small RefB.
-/
import Derived.Test.YtejocefblpkdjaaGreatSeg
import Derived.Shelf.Spec.BitsCarry
namespace Go.Proofs.YtejocefblpkdjaaGreat
open Go.RowKit
set_option maxHeartbeats 400000 in
theorem digit_at (a : Option Addr) (len cap i : Nat) (d : Int) (w : World) (h : i < len → ∃ b off, a = some ⟨b, off, none⟩ ∧ w.cell? ⟨b, off + i, none⟩ = some (.int .u64 d)) (h' : len ≤ i → d = 0) :
    Calls Tryz.prog 131 #[.slice a len cap, .int .i64 i] w fun e w' => e = .returned (.int .u64 d) ∧ w' = w := by
  by_cases hlt : i < len
  · obtain ⟨b, off, rfl, hc⟩ := h hlt
    go_enter Tryz.func131, Tryz.ntmps131
    go_wp2
    go_ret
    exact ⟨rfl, rfl⟩
  · obtain rfl := h' (by omega)
    go_enter Tryz.func131, Tryz.ntmps131
    go_wp2
    go_ret
    exact ⟨rfl, rfl⟩
set_option maxHeartbeats 400000 in
theorem rdigit_at (a : Option Addr) (len cap i : Nat) (d : Int) (w : World) (h : i < len → ∃ b off, a = some ⟨b, off, none⟩ ∧ w.cell? ⟨b, off + i, none⟩ = some (.int .u64 d)) (h' : len ≤ i → d = 0) :
    Calls Tryz.prog 108 #[.slice a len cap, .int .i64 i] w fun e w' => e = .returned (.int .u64 d) ∧ w' = w := by
  by_cases hlt : i < len
  · obtain ⟨b, off, rfl, hc⟩ := h hlt
    go_enter Tryz.func108, Tryz.ntmps108
    go_wp2
    go_ret
    exact ⟨rfl, rfl⟩
  · obtain rfl := h' (by omega)
    go_enter Tryz.func108, Tryz.ntmps108
    go_wp2
    go_ret
    exact ⟨rfl, rfl⟩
theorem Seg.at {lo : Nat} {W : World} {a : Option Addr} {len cap : Nat} {zs : List Int} (h : Seg lo W (.slice a len cap) zs) (i : Nat) :
    len = zs.length ∧ (i < len → ∃ b off, a = some ⟨b, off, none⟩ ∧ W.cell? ⟨b, off + i, none⟩ = some (.int .u64 (zs[i]?.getD 0))) ∧ (len ≤ i → zs[i]?.getD 0 = 0) := by
  obtain ⟨hw, a', cap', e, h1, h3⟩ := h
  simp only [Value.slice.injEq] at e
  obtain ⟨rfl, rfl, rfl⟩ := e
  refine ⟨rfl, fun hi => ?_, fun hi => by rw [List.getElem?_eq_none hi]; rfl⟩
  obtain ⟨b, off, e1, _, _, e4, _⟩ := h3 (by intro e; rw [e] at hi; simp at hi)
  exact ⟨b, off, e1, e4 i hi⟩
theorem digit_any {lo : Nat} {W : World} {a : Option Addr} {len cap : Nat} {zs : List Int} (h : Seg lo W (.slice a len cap) zs) (i : Nat) :
    Calls Tryz.prog 131 #[.slice a len cap, .int .i64 i] W fun e w' => e = .returned (.int .u64 (zs[i]?.getD 0)) ∧ w' = W :=
  digit_at a len cap i _ W (h.at i).2.1 (h.at i).2.2
theorem rdigit_any {lo : Nat} {W : World} {a : Option Addr} {len cap : Nat} {zs : List Int} (h : Seg lo W (.slice a len cap) zs) (i : Nat) :
    Calls Tryz.prog 108 #[.slice a len cap, .int .i64 i] W fun e w' => e = .returned (.int .u64 (zs[i]?.getD 0)) ∧ w' = W :=
  rdigit_at a len cap i _ W (h.at i).2.1 (h.at i).2.2
def cmpI (x y : Int) : Int := if x < y then -1 else if y < x then 1 else 0
theorem cmpI_lt {x y : Int} (h : x < y) : cmpI x y = -1 := by simp [cmpI, h]
theorem cmpI_gt {x y : Int} (h : y < x) : cmpI x y = 1 := by unfold cmpI; rw [if_neg (by omega), if_pos h]
theorem cmpI_eq (x : Int) : cmpI x x = 0 := by simp [cmpI]
set_option maxHeartbeats 400000 in
theorem cmpInt_any (x y : Int) (w : World) : Calls Tryz.prog 138 #[.int .i64 x, .int .i64 y] w fun e w' => e = .returned (.int .i64 (cmpI x y)) ∧ w' = w := by
  have n1 : ∀ z : Int, (z != z) = false := fun z => by simp
  by_cases h1 : x < y
  · rw [cmpI_lt h1]
    go_enter Tryz.func138, Tryz.ntmps138
    go_wp2
    go_ret
    exact ⟨rfl, rfl⟩
  · by_cases h2 : y < x
    · rw [cmpI_gt h2]
      go_enter Tryz.func138, Tryz.ntmps138
      go_wp2
      go_ret
      exact ⟨rfl, rfl⟩
    · obtain rfl : x = y := by omega
      rw [cmpI_eq]
      go_enter Tryz.func138, Tryz.ntmps138
      go_wp2
      go_ret
      exact ⟨rfl, rfl⟩
set_option maxHeartbeats 400000 in
theorem cmpU64_any (x y : Int) (w : World) : Calls Tryz.prog 139 #[.int .u64 x, .int .u64 y] w fun e w' => e = .returned (.int .i64 (cmpI x y)) ∧ w' = w := by
  have n1 : ∀ z : Int, (z != z) = false := fun z => by simp
  by_cases h1 : x < y
  · rw [cmpI_lt h1]
    go_enter Tryz.func139, Tryz.ntmps139
    go_wp2
    go_ret
    exact ⟨rfl, rfl⟩
  · by_cases h2 : y < x
    · rw [cmpI_gt h2]
      go_enter Tryz.func139, Tryz.ntmps139
      go_wp2
      go_ret
      exact ⟨rfl, rfl⟩
    · obtain rfl : x = y := by omega
      rw [cmpI_eq]
      go_enter Tryz.func139, Tryz.ntmps139
      go_wp2
      go_ret
      exact ⟨rfl, rfl⟩
theorem add64 (x y c : Int) (hx : 0 ≤ x) (hy : 0 ≤ y) (hc0 : 0 ≤ c) (hc : c ≤ 1) (w : World) : (callFunc 148 #[.int .u64 x, .int .u64 y, .int .u64 c]).run Tryz.prog w =
    .ok (.value (.tuple #[.int .u64 ((x + y + c) % 18446744073709551616), .int .u64 ((x + y + c) / 18446744073709551616)])) w := by
  rw [run_callFunc_extern Tryz.func148 (by kernel_rfl) (by kernel_rfl) (by kernel_rfl) (e := add64Entry) (by kernel_rfl), run_add64 x y c hx hy hc0 hc]
  rfl
theorem sub64 (x y b : Int) (hx : 0 ≤ x) (hy : 0 ≤ y) (hy' : y < 18446744073709551616) (hb0 : 0 ≤ b) (hb : b ≤ 1) (w : World) : (callFunc 159 #[.int .u64 x, .int .u64 y, .int .u64 b]).run Tryz.prog w =
    .ok (.value (.tuple #[.int .u64 ((x - y - b) % 18446744073709551616), .int .u64 (if x < y + b then 1 else 0)])) w := by
  obtain ⟨x, rfl⟩ := Int.eq_ofNat_of_zero_le hx
  obtain ⟨y, rfl⟩ := Int.eq_ofNat_of_zero_le hy
  obtain ⟨b, rfl⟩ := Int.eq_ofNat_of_zero_le hb0
  have e1 : (((x + 18446744073709551616 - y - b) % 18446744073709551616 : Nat) : Int) = ((x : Int) - y - b) % 18446744073709551616 := by omega
  have e2 : ((if x < y + b then 1 else 0 : Nat) : Int) = if (x : Int) < y + b then 1 else 0 := by split <;> split <;> omega
  rw [← e1, ← e2]
  rw [run_callFunc_extern Tryz.func159 (by kernel_rfl) (by kernel_rfl) (by kernel_rfl) (e := sub64Entry) (by kernel_rfl), run_sub64 x y b (by omega)]
  rfl
set_option maxHeartbeats 400000 in
theorem movable_any (bits : Int) (w : World) : Calls Tryz.prog 164 #[.int .i64 bits] w fun e w' => e = .returned (.bool (decide (0 ≤ bits ∧ bits ≤ 16777216))) ∧ w' = w := by
  by_cases h1 : 0 ≤ bits
  · by_cases h2 : bits ≤ 16777216
    · rw [decide_eq_true ⟨h1, h2⟩]
      go_enter Tryz.func164, Tryz.ntmps164
      go_wp2
      go_ret
      exact ⟨rfl, rfl⟩
    · rw [decide_eq_false (by omega)]
      go_enter Tryz.func164, Tryz.ntmps164
      go_wp2
      go_ret
      exact ⟨rfl, rfl⟩
  · rw [decide_eq_false (by omega)]
    go_enter Tryz.func164, Tryz.ntmps164
    go_wp2
    go_ret
    exact ⟨rfl, rfl⟩
set_option maxHeartbeats 400000 in
theorem moved_any (bits : Int) (w : World) : Calls Tryz.prog 149 #[.int .i64 bits] w fun e w' => e = .returned (.bool (decide (0 ≤ bits ∧ bits ≤ 16777216))) ∧ w' = w := by
  by_cases h1 : 0 ≤ bits
  · by_cases h2 : bits ≤ 16777216
    · rw [decide_eq_true ⟨h1, h2⟩]
      go_enter Tryz.func149, Tryz.ntmps149
      go_wp2
      go_ret
      exact ⟨rfl, rfl⟩
    · rw [decide_eq_false (by omega)]
      go_enter Tryz.func149, Tryz.ntmps149
      go_wp2
      go_ret
      exact ⟨rfl, rfl⟩
  · rw [decide_eq_false (by omega)]
    go_enter Tryz.func149, Tryz.ntmps149
    go_wp2
    go_ret
    exact ⟨rfl, rfl⟩
theorem val_pad (zs : List Int) (n : Nat) : val (zs ++ List.replicate n 0) = val zs := by rw [val_append, val_zeros]; omega
theorem pad_at (zs : List Int) (n j : Nat) : (zs ++ List.replicate n 0)[j]?.getD 0 = zs[j]?.getD 0 := by
  by_cases h : j < zs.length
  · rw [List.getElem?_append_left h]
  · rw [List.getElem?_append_right (by omega), List.getElem?_eq_none (l := zs) (by omega)]
    by_cases h2 : j - zs.length < n
    · rw [List.getElem?_replicate_of_lt h2]; rfl
    · rw [List.getElem?_eq_none (by simp; omega)]
theorem val_lt_pad {xs ys : List Int} (hx : Words xs) (hy : Words ys) {M k : Nat} (h1 : xs.length ≤ M) (h2 : ys.length ≤ M) (hk : k < M) (h : xs[k]?.getD 0 < ys[k]?.getD 0) (hs : ∀ j, k < j → j < M → xs[j]?.getD 0 = ys[j]?.getD 0) : val xs < val ys := by
  have := val_lt_at (xs := xs ++ List.replicate (M - xs.length) 0) (ys := ys ++ List.replicate (M - ys.length) 0) (hx.append (Words.zeros _)) (hy.append (Words.zeros _)) (by simp; omega) (k := k) (by simp; omega) (by rw [pad_at, pad_at]; exact h)
    (fun j hj hj2 => by rw [pad_at, pad_at]; exact hs j hj (by simp at hj2; omega))
  rwa [val_pad, val_pad] at this
theorem val_eq_pad {xs ys : List Int} {M : Nat} (h1 : xs.length ≤ M) (h2 : ys.length ≤ M) (hs : ∀ j, j < M → xs[j]?.getD 0 = ys[j]?.getD 0) : val xs = val ys := by
  have e : xs ++ List.replicate (M - xs.length) 0 = ys ++ List.replicate (M - ys.length) 0 := by
    apply List.ext_getElem
    · simp; omega
    · intro j g1 g2
      have := hs j (by simp at g1; omega)
      rw [← pad_at xs (M - xs.length) j, ← pad_at ys (M - ys.length) j, List.getElem?_eq_getElem g1, List.getElem?_eq_getElem g2] at this
      simpa using this
  rw [← val_pad xs (M - xs.length), e, val_pad]
set_option maxRecDepth 100000 in
set_option maxHeartbeats 2000000 in
theorem rcmp_any {lo lo' : Nat} {a b : Option Addr} {ca cb : Nat} {xs ys : List Int} {w : World} (ha : Seg lo w (.slice a xs.length ca) xs) (hb : Seg lo' w (.slice b ys.length cb) ys) (hla : xs.length ≤ 10000) (hlb : ys.length ≤ 10000) :
    Calls Tryz.prog 75 #[.slice a xs.length ca, .slice b ys.length cb] w fun e w' => e = .returned (.int .i64 (cmpI (val xs) (val ys))) ∧ w' = w := by
  obtain ⟨n, hn⟩ : ∃ n, xs.length = n := ⟨_, rfl⟩
  obtain ⟨m, hm⟩ : ∃ m, ys.length = m := ⟨_, rfl⟩
  have HN : Hid (xs.length = n ∧ ys.length = m) := ⟨hn, hm⟩
  have hwx := ha.words
  have hwy := hb.words
  rw [hn] at ha hla ⊢
  rw [hm] at hb hlb ⊢
  clear hn hm
  by_cases hmn : n < m
  · have hmi : (n : Int) < (m : Int) := by omega
    go_enter Tryz.func75, Tryz.ntmps75
    go_wp2
    go_loopw [5] (fun i wr => ∃ k : Nat, k ≤ m ∧ i = .int .i64 ((k : Int) - 1) ∧ wr = w ∧ Hid (∀ j, k ≤ j → j < m → xs[j]?.getD 0 = ys[j]?.getD 0)) (fun i _ => (intOf i + 1).toNat)
    case atStart => exact ⟨m, Nat.le_refl _, rfl, rfl, fun j h1 h2 => by omega⟩
    case round =>
      obtain ⟨k, hk, rfl, rfl, HS⟩ := hrel
      by_cases h0 : k = 0
      · subst h0
        have HF : Hid (cmpI (val xs) (val ys) = 0) := by
          rw [Hid, val_eq_pad (M := m) (by rw [HN.out.1]; omega) (by rw [HN.out.2]; omega) (fun j hj => HS.out j (by omega) hj), cmpI_eq]
        go_wp2
        go_ret
        exact ⟨ret_int HF.out.symm, rfl⟩
      · obtain ⟨p, rfl⟩ : ∃ p, k = p + 1 := ⟨k - 1, by omega⟩
        have hp1 : (((p + 1 : Nat) : Int) - 1) = (p : Int) := by omega
        rw [hp1]
        clear hp1
        have hd1 := rdigit_any ha p
        have hd2 := rdigit_any hb p
        generalize hX : xs[p]?.getD 0 = x at *
        generalize hY : ys[p]?.getD 0 = y at *
        have HX := hide hX
        have HY := hide hY
        clear hX hY
        rcases Int.lt_trichotomy x y with h | h | h
        · have HF : Hid (cmpI (val xs) (val ys) = -1) := cmpI_lt (val_lt_pad hwx hwy (M := m) (k := p) (by rw [HN.out.1]; omega) (by rw [HN.out.2]; omega) (by omega) (by rw [HX.out, HY.out]; exact h) (fun j h1 h2 => HS.out j (by omega) h2))
          go_wp2_with fail
          refine hd1.mono ?_
          rintro e w' ⟨rfl, rfl⟩
          go_wp2_with fail
          refine hd2.mono ?_
          rintro e w' ⟨rfl, rfl⟩
          go_wp2
          go_ret
          exact ⟨ret_int HF.out.symm, rfl⟩
        · subst h
          have hne : ¬ x < x := by omega
          go_wp2_with fail
          refine hd1.mono ?_
          rintro e w' ⟨rfl, rfl⟩
          go_wp2_with fail
          refine hd2.mono ?_
          rintro e w' ⟨rfl, rfl⟩
          go_wp2
          refine ⟨⟨p, by omega, by first | rfl | go_num, by first | rfl | trivial, fun j h1 h2 => ?_⟩, by simp [intOf]⟩
          by_cases e : j = p
          · subst e; rw [HX.out, HY.out]
          · exact HS.out j (by omega) h2
        · have HF : Hid (cmpI (val xs) (val ys) = 1) := cmpI_gt (val_lt_pad hwy hwx (M := m) (k := p) (by rw [HN.out.2]; omega) (by rw [HN.out.1]; omega) (by omega) (by rw [HX.out, HY.out]; exact h) (fun j h1 h2 => (HS.out j (by omega) h2).symm))
          have hne : ¬ x < y := by omega
          go_wp2_with fail
          refine hd1.mono ?_
          rintro e w' ⟨rfl, rfl⟩
          go_wp2_with fail
          refine hd2.mono ?_
          rintro e w' ⟨rfl, rfl⟩
          go_wp2
          go_ret
          exact ⟨ret_int HF.out.symm, rfl⟩
  · have hmi : ¬ (n : Int) < (m : Int) := by omega
    go_enter Tryz.func75, Tryz.ntmps75
    go_wp2
    go_loopw [5] (fun i wr => ∃ k : Nat, k ≤ n ∧ i = .int .i64 ((k : Int) - 1) ∧ wr = w ∧ Hid (∀ j, k ≤ j → j < n → xs[j]?.getD 0 = ys[j]?.getD 0)) (fun i _ => (intOf i + 1).toNat)
    case atStart => exact ⟨n, Nat.le_refl _, rfl, rfl, fun j h1 h2 => by omega⟩
    case round =>
      obtain ⟨k, hk, rfl, rfl, HS⟩ := hrel
      by_cases h0 : k = 0
      · subst h0
        have HF : Hid (cmpI (val xs) (val ys) = 0) := by
          rw [Hid, val_eq_pad (M := n) (by rw [HN.out.1]; omega) (by rw [HN.out.2]; omega) (fun j hj => HS.out j (by omega) hj), cmpI_eq]
        go_wp2
        go_ret
        exact ⟨ret_int HF.out.symm, rfl⟩
      · obtain ⟨p, rfl⟩ : ∃ p, k = p + 1 := ⟨k - 1, by omega⟩
        have hp1 : (((p + 1 : Nat) : Int) - 1) = (p : Int) := by omega
        rw [hp1]
        clear hp1
        have hd1 := rdigit_any ha p
        have hd2 := rdigit_any hb p
        generalize hX : xs[p]?.getD 0 = x at *
        generalize hY : ys[p]?.getD 0 = y at *
        have HX := hide hX
        have HY := hide hY
        clear hX hY
        rcases Int.lt_trichotomy x y with h | h | h
        · have HF : Hid (cmpI (val xs) (val ys) = -1) := cmpI_lt (val_lt_pad hwx hwy (M := n) (k := p) (by rw [HN.out.1]; omega) (by rw [HN.out.2]; omega) (by omega) (by rw [HX.out, HY.out]; exact h) (fun j h1 h2 => HS.out j (by omega) h2))
          go_wp2_with fail
          refine hd1.mono ?_
          rintro e w' ⟨rfl, rfl⟩
          go_wp2_with fail
          refine hd2.mono ?_
          rintro e w' ⟨rfl, rfl⟩
          go_wp2
          go_ret
          exact ⟨ret_int HF.out.symm, rfl⟩
        · subst h
          have hne : ¬ x < x := by omega
          go_wp2_with fail
          refine hd1.mono ?_
          rintro e w' ⟨rfl, rfl⟩
          go_wp2_with fail
          refine hd2.mono ?_
          rintro e w' ⟨rfl, rfl⟩
          go_wp2
          refine ⟨⟨p, by omega, by first | rfl | go_num, by first | rfl | trivial, fun j h1 h2 => ?_⟩, by simp [intOf]⟩
          by_cases e : j = p
          · subst e; rw [HX.out, HY.out]
          · exact HS.out j (by omega) h2
        · have HF : Hid (cmpI (val xs) (val ys) = 1) := cmpI_gt (val_lt_pad hwy hwx (M := n) (k := p) (by rw [HN.out.2]; omega) (by rw [HN.out.1]; omega) (by omega) (by rw [HX.out, HY.out]; exact h) (fun j h1 h2 => (HS.out j (by omega) h2).symm))
          have hne : ¬ x < y := by omega
          go_wp2_with fail
          refine hd1.mono ?_
          rintro e w' ⟨rfl, rfl⟩
          go_wp2_with fail
          refine hd2.mono ?_
          rintro e w' ⟨rfl, rfl⟩
          go_wp2
          go_ret
          exact ⟨ret_int HF.out.symm, rfl⟩
end Go.Proofs.YtejocefblpkdjaaGreat
