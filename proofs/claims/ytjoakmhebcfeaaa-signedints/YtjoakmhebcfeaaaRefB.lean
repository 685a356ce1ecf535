/-
  The walks of the document's answers: Cmp.
-/
import Derived.Test.YtjoakmhebcfeaaaSmall
namespace Go.Proofs.Ytjoakmhebcfeaaa
open Go.RowKit

/-- Lists of words, filled up with noughts to one length. -/
theorem val_pad (zs : List Int) (n : Nat) : val (zs ++ List.replicate n 0) = val zs := by rw [val_append, val_zeros]; omega
theorem pad_at (zs : List Int) (n j : Nat) : (zs ++ List.replicate n 0)[j]?.getD 0 = zs[j]?.getD 0 := by
  by_cases h : j < zs.length
  · rw [List.getElem?_append_left h]
  · rw [List.getElem?_append_right (by omega), List.getElem?_eq_none (l := zs) (by omega)]
    by_cases h2 : j - zs.length < n
    · rw [List.getElem?_replicate_of_lt h2]; rfl
    · rw [List.getElem?_eq_none (by simp; omega)]
/-- The highest word that is not the same decides, also of lists of unlike lengths. -/
theorem val_lt_pad {xs ys : List Int} (hx : Words xs) (hy : Words ys) {M k : Nat} (h1 : xs.length ≤ M) (h2 : ys.length ≤ M) (hk : k < M) (h : xs[k]?.getD 0 < ys[k]?.getD 0) (hs : ∀ j, k < j → j < M → xs[j]?.getD 0 = ys[j]?.getD 0) : val xs < val ys := by
  have := val_lt_at (xs := xs ++ List.replicate (M - xs.length) 0) (ys := ys ++ List.replicate (M - ys.length) 0) (hx.append (Words.zeros _)) (hy.append (Words.zeros _)) (by simp; omega) (k := k) (by simp; omega) (by rw [pad_at, pad_at]; exact h)
    (fun j hj hj2 => by rw [pad_at, pad_at]; exact hs j hj (by simp at hj2; omega))
  rwa [val_pad, val_pad] at this
theorem val_eq_pad {xs ys : List Int} {M : Nat} (h1 : xs.length ≤ M) (h2 : ys.length ≤ M) (hs : ∀ j, j < M → xs[j]?.getD 0 = ys[j]?.getD 0) : val xs = val ys := by
  have e : xs ++ List.replicate (M - xs.length) 0 = ys ++ List.replicate (M - ys.length) 0 := by
    apply List.ext_getElem
    · simp; omega
    · intro j g1 g2
      have := hs j (by simp at g1; omega)
      rw [← pad_at xs (M - xs.length) j, ← pad_at ys (M - ys.length) j, List.getElem?_eq_getElem g1, List.getElem?_eq_getElem g2] at this
      simpa using this
  rw [← val_pad xs (M - xs.length), e, val_pad]

set_option maxRecDepth 100000 in
set_option maxHeartbeats 2000000 in
/-- The document's Cmp. -/
theorem rcmp_any {lo lo' : Nat} {a b : Option Addr} {ca cb : Nat} {xs ys : List Int} {w : World} (ha : Seg lo w (.slice a xs.length ca) xs) (hb : Seg lo' w (.slice b ys.length cb) ys) (hla : xs.length ≤ 10000) (hlb : ys.length ≤ 10000) :
    Calls Try.prog 53 #[.slice a xs.length ca, .slice b ys.length cb] w fun e w' => e = .returned (.int .i64 (cmpI (val xs) (val ys))) ∧ w' = w := by
  obtain ⟨n, hn⟩ : ∃ n, xs.length = n := ⟨_, rfl⟩
  obtain ⟨m, hm⟩ : ∃ m, ys.length = m := ⟨_, rfl⟩
  have HN : Hid (xs.length = n ∧ ys.length = m) := ⟨hn, hm⟩
  have hwx := ha.words
  have hwy := hb.words
  rw [hn] at ha hla ⊢
  rw [hm] at hb hlb ⊢
  clear hn hm
  by_cases hmn : n < m
  · have hmi : (n : Int) < (m : Int) := by omega
    go_enter Try.func53, Try.ntmps53
    go_wp2
    go_loopw [5] (fun i wr => ∃ k : Nat, k ≤ m ∧ i = .int .i64 ((k : Int) - 1) ∧ wr = w ∧ Hid (∀ j, k ≤ j → j < m → xs[j]?.getD 0 = ys[j]?.getD 0)) (fun i _ => (intOf i + 1).toNat)
    case atStart => exact ⟨m, Nat.le_refl _, rfl, rfl, fun j h1 h2 => by omega⟩
    case round =>
      obtain ⟨k, hk, rfl, rfl, HS⟩ := hrel
      by_cases h0 : k = 0
      · subst h0
        have HF : Hid (cmpI (val xs) (val ys) = 0) := by
          rw [Hid, val_eq_pad (M := m) (by rw [HN.out.1]; omega) (by rw [HN.out.2]; omega) (fun j hj => HS.out j (by omega) hj), cmpI_eq]
        go_wp2
        go_ret
        exact ⟨ret_int HF.out.symm, rfl⟩
      · obtain ⟨p, rfl⟩ : ∃ p, k = p + 1 := ⟨k - 1, by omega⟩
        have hp1 : (((p + 1 : Nat) : Int) - 1) = (p : Int) := by omega
        rw [hp1]
        clear hp1
        have hd1 := rdigit_any ha p
        have hd2 := rdigit_any hb p
        generalize hX : xs[p]?.getD 0 = x at *
        generalize hY : ys[p]?.getD 0 = y at *
        have HX := hide hX
        have HY := hide hY
        clear hX hY
        rcases Int.lt_trichotomy x y with h | h | h
        · have HF : Hid (cmpI (val xs) (val ys) = -1) := cmpI_lt (val_lt_pad hwx hwy (M := m) (k := p) (by rw [HN.out.1]; omega) (by rw [HN.out.2]; omega) (by omega) (by rw [HX.out, HY.out]; exact h) (fun j h1 h2 => HS.out j (by omega) h2))
          go_wp2_with fail
          refine hd1.mono ?_
          rintro e w' ⟨rfl, rfl⟩
          go_wp2_with fail
          refine hd2.mono ?_
          rintro e w' ⟨rfl, rfl⟩
          go_wp2
          go_ret
          exact ⟨ret_int HF.out.symm, rfl⟩
        · subst h
          have hne : ¬ x < x := by omega
          go_wp2_with fail
          refine hd1.mono ?_
          rintro e w' ⟨rfl, rfl⟩
          go_wp2_with fail
          refine hd2.mono ?_
          rintro e w' ⟨rfl, rfl⟩
          go_wp2
          refine ⟨⟨p, by omega, by first | rfl | go_num, by first | rfl | trivial, fun j h1 h2 => ?_⟩, by simp [intOf]⟩
          by_cases e : j = p
          · subst e; rw [HX.out, HY.out]
          · exact HS.out j (by omega) h2
        · have HF : Hid (cmpI (val xs) (val ys) = 1) := cmpI_gt (val_lt_pad hwy hwx (M := m) (k := p) (by rw [HN.out.2]; omega) (by rw [HN.out.1]; omega) (by omega) (by rw [HX.out, HY.out]; exact h) (fun j h1 h2 => (HS.out j (by omega) h2).symm))
          have hne : ¬ x < y := by omega
          go_wp2_with fail
          refine hd1.mono ?_
          rintro e w' ⟨rfl, rfl⟩
          go_wp2_with fail
          refine hd2.mono ?_
          rintro e w' ⟨rfl, rfl⟩
          go_wp2
          go_ret
          exact ⟨ret_int HF.out.symm, rfl⟩
  · have hmi : ¬ (n : Int) < (m : Int) := by omega
    go_enter Try.func53, Try.ntmps53
    go_wp2
    go_loopw [5] (fun i wr => ∃ k : Nat, k ≤ n ∧ i = .int .i64 ((k : Int) - 1) ∧ wr = w ∧ Hid (∀ j, k ≤ j → j < n → xs[j]?.getD 0 = ys[j]?.getD 0)) (fun i _ => (intOf i + 1).toNat)
    case atStart => exact ⟨n, Nat.le_refl _, rfl, rfl, fun j h1 h2 => by omega⟩
    case round =>
      obtain ⟨k, hk, rfl, rfl, HS⟩ := hrel
      by_cases h0 : k = 0
      · subst h0
        have HF : Hid (cmpI (val xs) (val ys) = 0) := by
          rw [Hid, val_eq_pad (M := n) (by rw [HN.out.1]; omega) (by rw [HN.out.2]; omega) (fun j hj => HS.out j (by omega) hj), cmpI_eq]
        go_wp2
        go_ret
        exact ⟨ret_int HF.out.symm, rfl⟩
      · obtain ⟨p, rfl⟩ : ∃ p, k = p + 1 := ⟨k - 1, by omega⟩
        have hp1 : (((p + 1 : Nat) : Int) - 1) = (p : Int) := by omega
        rw [hp1]
        clear hp1
        have hd1 := rdigit_any ha p
        have hd2 := rdigit_any hb p
        generalize hX : xs[p]?.getD 0 = x at *
        generalize hY : ys[p]?.getD 0 = y at *
        have HX := hide hX
        have HY := hide hY
        clear hX hY
        rcases Int.lt_trichotomy x y with h | h | h
        · have HF : Hid (cmpI (val xs) (val ys) = -1) := cmpI_lt (val_lt_pad hwx hwy (M := n) (k := p) (by rw [HN.out.1]; omega) (by rw [HN.out.2]; omega) (by omega) (by rw [HX.out, HY.out]; exact h) (fun j h1 h2 => HS.out j (by omega) h2))
          go_wp2_with fail
          refine hd1.mono ?_
          rintro e w' ⟨rfl, rfl⟩
          go_wp2_with fail
          refine hd2.mono ?_
          rintro e w' ⟨rfl, rfl⟩
          go_wp2
          go_ret
          exact ⟨ret_int HF.out.symm, rfl⟩
        · subst h
          have hne : ¬ x < x := by omega
          go_wp2_with fail
          refine hd1.mono ?_
          rintro e w' ⟨rfl, rfl⟩
          go_wp2_with fail
          refine hd2.mono ?_
          rintro e w' ⟨rfl, rfl⟩
          go_wp2
          refine ⟨⟨p, by omega, by first | rfl | go_num, by first | rfl | trivial, fun j h1 h2 => ?_⟩, by simp [intOf]⟩
          by_cases e : j = p
          · subst e; rw [HX.out, HY.out]
          · exact HS.out j (by omega) h2
        · have HF : Hid (cmpI (val xs) (val ys) = 1) := cmpI_gt (val_lt_pad hwy hwx (M := n) (k := p) (by rw [HN.out.2]; omega) (by rw [HN.out.1]; omega) (by omega) (by rw [HX.out, HY.out]; exact h) (fun j h1 h2 => (HS.out j (by omega) h2).symm))
          have hne : ¬ x < y := by omega
          go_wp2_with fail
          refine hd1.mono ?_
          rintro e w' ⟨rfl, rfl⟩
          go_wp2_with fail
          refine hd2.mono ?_
          rintro e w' ⟨rfl, rfl⟩
          go_wp2
          go_ret
          exact ⟨ret_int HF.out.symm, rfl⟩
#print axioms rcmp_any
end Go.Proofs.Ytjoakmhebcfeaaa
