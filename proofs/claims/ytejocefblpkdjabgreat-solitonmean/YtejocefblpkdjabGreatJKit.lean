/-
  Joined: Kit SPick.
-/
import Derived.Test.YtejocefblpkdjabGreatJWiden
import Derived.Test.YtejocefblpkdjabGreatJSmall
import Derived.Deep.QuietTactic
import Derived.BigQuiet
namespace Go.Proofs.YtejocefblpkdjabGreat
open Go.RowKit
theorem Below.drewN' {B : Nat} {a w : World} (h : Below B a w) (n : Nat) : Below B a (w.drewN n) := ⟨h.os, h.tape, h.output, h.size, h.block⟩
set_option maxRecDepth 100000 in
set_option maxHeartbeats 1000000 in
theorem same_at (a b : Option Addr) (len ca cb : Nat) (xs ys : List Int) (w : World) (hl : len ≤ 1000000)
    (ha : 0 < len → ∃ p o, a = some ⟨p, o, none⟩ ∧ p < w.heap.size ∧ ∀ j, j < len → w.cell? ⟨p, o + j, none⟩ = some (.int .u64 (xs[j]?.getD 0)))
    (hb : 0 < len → ∃ p o, b = some ⟨p, o, none⟩ ∧ p < w.heap.size ∧ ∀ j, j < len → w.cell? ⟨p, o + j, none⟩ = some (.int .u64 (ys[j]?.getD 0))) :
    Calls Tryz.prog 22 #[.slice a len ca, .slice b len cb] w fun e w' => ((e = .returned (.bool true) ∧ ∀ j, j < len → xs[j]?.getD 0 = ys[j]?.getD 0) ∨ (e = .returned (.bool false) ∧ ∃ j, j < len ∧ xs[j]?.getD 0 ≠ ys[j]?.getD 0)) ∧ Below w.heap.size w w' := by
  go_enter Tryz.func22, Tryz.ntmps22
  go_wp2
  go_loopw [5] (fun i wr => ∃ k : Nat, k ≤ len ∧ i = .int .i64 k ∧ (∀ j, j < k → xs[j]?.getD 0 = ys[j]?.getD 0) ∧ Below w.heap.size w wr) (fun i _ => len - (intOf i).toNat)
  case atStart => exact ⟨0, Nat.zero_le _, rfl, fun j hj => by omega, Below.refl _ _⟩
  case round =>
    obtain ⟨k, hk, rfl, hs, hbr⟩ := hrel
    have HS := hide hs
    clear hs
    by_cases hlt : k < len
    · obtain ⟨p1, o1, rfl, hp1, hc1⟩ := ha (by omega)
      obtain ⟨p2, o2, rfl, hp2, hc2⟩ := hb (by omega)
      have c1 := (hbr.cell (p := ⟨p1, o1 + k, none⟩) hp1).trans (hc1 k hlt)
      have c2 := (hbr.cell (p := ⟨p2, o2 + k, none⟩) hp2).trans (hc2 k hlt)
      have hki : (k : Int) < (len : Int) := by omega
      clear hc1 hc2 ha hb
      by_cases he : xs[k]?.getD 0 = ys[k]?.getD 0
      · have hne : (xs[k]?.getD 0 != ys[k]?.getD 0) = false := by simpa using he
        have HQ := hide he
        clear he
        go_wp2_with fail
        go_quiet (fail)
        go_wp2
        refine ⟨⟨k + 1, by omega, by go_num, fun j hj => ?_, Below.drewN' hbr _⟩, by simp [intOf]; omega⟩
        by_cases e : j = k
        · subst e; exact HQ.out
        · exact HS.out j (by omega)
      · have hne : (xs[k]?.getD 0 != ys[k]?.getD 0) = true := by simpa using he
        have HQ := hide he
        clear he
        go_wp2_with fail
        go_quiet (fail)
        go_wp2
        go_ret
        exact ⟨.inr ⟨rfl, k, hlt, HQ.out⟩, Below.drewN' hbr _⟩
    · obtain rfl : k = len := by omega
      go_wp2
      go_ret
      exact ⟨.inl ⟨rfl, HS.out⟩, hbr⟩
theorem Seg.rows {lo : Nat} {W : World} {a : Option Addr} {len cap : Nat} {zs : List Int} (h : Seg lo W (.slice a len cap) zs) : 0 < len → ∃ p o, a = some ⟨p, o, none⟩ ∧ p < W.heap.size ∧ ∀ j, j < len → W.cell? ⟨p, o + j, none⟩ = some (.int .u64 (zs[j]?.getD 0)) := fun h0 => by
  obtain ⟨b, off, rfl, _, e3⟩ := h.row h0
  exact ⟨b, off, rfl, e3, fun j hj => (h.cell hj).1⟩
theorem same_yes {lo lo' : Nat} {a b : Option Addr} {ca cb : Nat} {xs : List Int} {w : World} (ha : Seg lo w (.slice a xs.length ca) xs) (hb : Seg lo' w (.slice b xs.length cb) xs) (hl : xs.length ≤ 1000000) :
    Calls Tryz.prog 22 #[.slice a xs.length ca, .slice b xs.length cb] w fun e w' => e = .returned (.bool true) ∧ Below w.heap.size w w' := by
  refine (same_at a b xs.length ca cb xs xs w hl ha.rows hb.rows).mono ?_
  rintro e w' ⟨⟨rfl, _⟩ | ⟨rfl, j, _, h⟩, hb⟩
  · exact ⟨rfl, hb⟩
  · exact absurd rfl h
set_option maxRecDepth 100000 in
set_option maxHeartbeats 400000 in
theorem same_no {lo lo' : Nat} {a b : Option Addr} {ca cb : Nat} {xs ys : List Int} {w : World} (ha : Seg lo w (.slice a xs.length ca) xs) (hb : Seg lo' w (.slice b ys.length cb) ys) (hl : xs.length ≤ 1000000) (hne : xs ≠ ys) :
    Calls Tryz.prog 22 #[.slice a xs.length ca, .slice b ys.length cb] w fun e w' => e = .returned (.bool false) ∧ Below w.heap.size w w' := by
  by_cases e : xs.length = ys.length
  · rw [← e] at hb ⊢
    refine (same_at a b xs.length ca cb xs ys w hl ha.rows hb.rows).mono ?_
    rintro e' w' ⟨⟨rfl, h⟩ | ⟨rfl, _⟩, hb⟩
    · exact absurd (List.ext_getElem e fun j h1 h2 => by
        have := h j h1
        rw [List.getElem?_eq_getElem h1, List.getElem?_eq_getElem h2] at this
        simpa using this) hne
    · exact ⟨rfl, hb⟩
  · have hn : ((xs.length : Int) != (ys.length : Int)) = true := by rw [bne_iff_ne]; omega
    clear e
    go_enter Tryz.func22, Tryz.ntmps22
    go_wp2
    go_ret
    exact ⟨rfl, Below.refl _ _⟩
theorem tmod_is (x K : Int) (hK : 0 < K) : -K < x.tmod K ∧ x.tmod K < K := by
  by_cases h : 0 ≤ x
  · rw [Int.tmod_eq_emod_of_nonneg h]
    have := Int.emod_nonneg x (show K ≠ 0 by omega)
    have := Int.emod_lt_of_pos x hK
    omega
  · have e : x.tmod K = -((-x) % K) := by
      rw [show x = -(-x) by omega, Int.neg_tmod, Int.tmod_eq_emod_of_nonneg (by omega)]; simp
    rw [e]
    have := Int.emod_nonneg (-x) (show K ≠ 0 by omega)
    have := Int.emod_lt_of_pos (-x) hK
    omega
set_option maxRecDepth 100000 in
set_option maxHeartbeats 400000 in
theorem pick_is (K : Int) (hK : 0 < K) (hK1 : K ≤ 16777216) (x : Int) (w : World) :
    Calls Tryz.prog 9 #[.int .i64 x, .int .i64 K] w fun e w' => ∃ n : Nat, (n : Int) < K ∧ e = .returned (.int .i64 n) ∧ Below w.heap.size w w' := by
  obtain ⟨h1, h2⟩ := tmod_is x K hK
  have h3 : ¬ K ≤ 0 := by omega
  have h4 : ¬ K = 0 := by omega
  by_cases h0 : x.tmod K < 0
  · go_enter Tryz.func9, Tryz.ntmps9
    go_wp2
    go_ret
    exact ⟨(x.tmod K + K).toNat, by omega, ret_int (by omega), Below.refl _ _⟩
  · go_enter Tryz.func9, Tryz.ntmps9
    go_wp2
    go_ret
    exact ⟨(x.tmod K).toNat, by omega, ret_int (by omega), Below.refl _ _⟩
end Go.Proofs.YtejocefblpkdjabGreat
