/-
  The walks of the program's byHalves, Mul, Karatsuba, Square, Grow.
-/
import Derived.Test.YtmgngkmdfccjaaaHalves
import Derived.Test.YtmgngkmdfccjaaaEnds
import Derived.Laws.EntriesVeiled
namespace Go.Proofs.Ytmgngkmdfccjaaa
open Go.RowKit

set_option maxRecDepth 100000 in
set_option maxHeartbeats 1000000 in
theorem byHalves_any {lo lo' : Nat} {sa sb : Value} {xs ys : List Int} {w : World} (ha : Seg lo w sa xs) (hb : Seg lo' w sb ys) (hla : xs.length ≤ 4000) (hlb : ys.length ≤ 4000) (least : Nat) (hleast : 2 ≤ least ∧ least ≤ 1000) :
    Calls Try.prog 34 #[sa, sb, .int .i64 least] w fun e w' => ∃ (a : Option Addr) (cap : Nat) (zs : List Int), e = .returned (.slice a zs.length cap) ∧ Seg w.heap.size w' (.slice a zs.length cap) zs ∧ Norm zs ∧ val zs = val xs * val ys ∧ zs.length ≤ xs.length + ys.length ∧ Below w.heap.size w w' := by
  have h1 := val_nonneg ha.words
  have h2 := val_nonneg hb.words
  have HN : Hid (val xs + val ys < (((val xs + val ys).toNat + 1 : Nat) : Int)) := by rw [Hid]; omega
  clear h1 h2
  go_enter Try.func34, Try.ntmps34
  go_wp2_with fail
  have hW : ∀ (t t' : TypeId) (u v : Value), Below w.heap.size w ((w.alloc (.cells #[u] t)).alloc (.cells #[v] t')) := fun t t' u v => ((Below.refl _ w).alloc (Nat.le_refl _) _).alloc (by simp) _
  refine (halves_any w.heap.size (w.heap.size + 1) least hleast ((val xs + val ys).toNat + 1) (ha.below (hW _ _ _ _)) (hb.below (hW _ _ _ _)) hla hlb HN.out (by simp; omega) (by simp) ?_ ?_).mono ?_
  · exact ((Boxed.new w _ _).alloc _).cell
  · have := fun t => (Boxed.new (w.alloc (.cells #[.int .i64 least] 3)) t (.func (.func 50) #[] #[.pointer (some ⟨w.heap.size, 0, none⟩), .pointer (some ⟨w.heap.size + 1, 0, none⟩)])).cell
    rw [World.size_alloc] at this
    exact this _
  · rintro e w1 ⟨a1, k1, zs, rfl, hs1, hn1, hv1, hl1, hb1⟩
    have HV := hide hv1
    clear hv1
    go_wp2
    go_ret
    exact ⟨_, _, zs, rfl, hs1.mono (hW _ _ _ _).size, hn1, HV.out, hl1, (hW _ _ _ _).trans (hb1.mono (hW _ _ _ _).size)⟩

set_option maxRecDepth 100000 in
set_option maxHeartbeats 400000 in
/-- Mul(a, b): the product. -/
theorem mul_any {lo lo' : Nat} {sa sb : Value} {xs ys : List Int} {w : World} (ha : Seg lo w sa xs) (hb : Seg lo' w sb ys) (hla : xs.length ≤ 4000) (hlb : ys.length ≤ 4000) :
    Calls Try.prog 14 #[sa, sb] w fun e w' => ∃ (a : Option Addr) (cap : Nat) (zs : List Int), e = .returned (.slice a zs.length cap) ∧ Seg w.heap.size w' (.slice a zs.length cap) zs ∧ Norm zs ∧ val zs = val xs * val ys ∧ zs.length ≤ xs.length + ys.length ∧ Below w.heap.size w w' := by
  have h80 := byHalves_any ha hb hla hlb 80 (by omega)
  rw [show ((80 : Nat) : Int) = 80 from rfl] at h80
  go_enter Try.func14, Try.ntmps14
  go_wp2_with fail
  refine h80.mono ?_
  rintro e w1 ⟨a1, k1, zs, rfl, hs1, hn1, hv1, hl1, hb1⟩
  have HV := hide hv1
  clear hv1 h80
  go_wp2
  go_ret
  exact ⟨_, _, zs, rfl, hs1, hn1, HV.out, hl1, hb1⟩

set_option maxRecDepth 100000 in
set_option maxHeartbeats 400000 in
/-- Karatsuba(a, b, least), where least may be. -/
theorem kara_yes {lo lo' : Nat} {sa sb : Value} {xs ys : List Int} {w : World} (ha : Seg lo w sa xs) (hb : Seg lo' w sb ys) (hla : xs.length ≤ 4000) (hlb : ys.length ≤ 4000) (least : Int) (h2 : 2 ≤ least) (h3 : least ≤ 1000) :
    Calls Try.prog 15 #[sa, sb, .int .i64 least] w fun e w' => ∃ (a : Option Addr) (cap : Nat) (zs : List Int), e = .returned (.tuple #[.slice a zs.length cap, .int .i64 0]) ∧ Seg w.heap.size w' (.slice a zs.length cap) zs ∧ Norm zs ∧ val zs = val xs * val ys ∧ zs.length ≤ xs.length + ys.length ∧ Below w.heap.size w w' := by
  obtain ⟨n, rfl⟩ := Int.eq_ofNat_of_zero_le (show 0 ≤ least by omega)
  have hk := byHalves_any ha hb hla hlb n (by omega)
  go_enter Try.func15, Try.ntmps15
  go_wp2_with fail
  refine hk.mono ?_
  rintro e w1 ⟨a1, k1, zs, rfl, hs1, hn1, hv1, hl1, hb1⟩
  have HV := hide hv1
  clear hv1 hk
  go_wp2
  go_ret2
  exact ⟨_, _, zs, rfl, hs1, hn1, HV.out, hl1, hb1⟩

set_option maxRecDepth 100000 in
set_option maxHeartbeats 400000 in
/-- Karatsuba(a, b, least), where least may not be: 3 (ErrRange). -/
theorem kara_no (sa sb : Value) (w : World) (least : Int) (h : least < 2 ∨ 1000 < least) :
    Calls Try.prog 15 #[sa, sb, .int .i64 least] w fun e w' => e = .returned (.tuple #[.slice none 0 0, .int .i64 3]) ∧ w' = w := by
  by_cases h2 : least < 2
  · go_enter Try.func15, Try.ntmps15
    go_wp2
    go_ret2
    exact ⟨rfl, rfl⟩
  · have h3 : 1000 < least := by omega
    clear h
    go_enter Try.func15, Try.ntmps15
    go_wp2
    go_ret2
    exact ⟨rfl, rfl⟩

set_option maxRecDepth 100000 in
set_option maxHeartbeats 400000 in
/-- Square(a). -/
theorem square_any {lo : Nat} {sa : Value} {xs : List Int} {w : World} (ha : Seg lo w sa xs) (hla : xs.length ≤ 4000) :
    Calls Try.prog 17 #[sa] w fun e w' => ∃ (a : Option Addr) (cap : Nat) (zs : List Int), e = .returned (.slice a zs.length cap) ∧ Seg w.heap.size w' (.slice a zs.length cap) zs ∧ Norm zs ∧ val zs = val xs * val xs ∧ zs.length ≤ xs.length + xs.length ∧ Below w.heap.size w w' := by
  have hm := mul_any ha ha hla hla
  go_enter Try.func17, Try.ntmps17
  go_wp2_with fail
  refine hm.mono ?_
  rintro e w1 ⟨a1, k1, zs, rfl, hs1, hn1, hv1, hl1, hb1⟩
  have HV := hide hv1
  clear hv1 hm
  go_wp2
  go_ret
  exact ⟨_, _, zs, rfl, hs1, hn1, HV.out, hl1, hb1⟩

set_option maxRecDepth 100000 in
set_option maxHeartbeats 400000 in
/-- Grow(a, x). -/
theorem tgrow_any {lo : Nat} {sa : Value} {xs : List Int} {w : World} (ha : Seg lo w sa xs) (hla : xs.length ≤ 4000) (x : Int) (hx : 0 ≤ x ∧ x < 18446744073709551616) :
    Calls Try.prog 18 #[sa, .int .u64 x] w fun e w' => ∃ (a : Option Addr) (cap : Nat) (zs : List Int), e = .returned (.slice a zs.length cap) ∧ Seg w.heap.size w' (.slice a zs.length cap) zs ∧ Norm zs ∧ val zs = val xs * x ∧ zs.length ≤ xs.length + 1 ∧ Below w.heap.size w w' := by
  go_enter Try.func18, Try.ntmps18
  go_wp2_with fail
  refine (of_any x hx w).mono ?_
  rintro e w1 ⟨a1, k1, us, rfl, hs1, hn1, hv1, hl1, hb1⟩
  have hm := school_any (ha.below hb1) hs1 (by omega) (by omega)
  rw [hv1] at hm
  clear hv1
  go_wp2_with fail
  refine hm.mono ?_
  rintro e w2 ⟨a2, k2, zs, rfl, hs2, hn2, hv2, hl2, hb2⟩
  have HV := hide hv2
  clear hv2 hm
  go_wp2
  go_ret
  exact ⟨_, _, zs, rfl, hs2.mono hb1.size, hn2, HV.out, by omega, hb1.trans (hb2.mono hb1.size)⟩
end Go.Proofs.Ytmgngkmdfccjaaa
