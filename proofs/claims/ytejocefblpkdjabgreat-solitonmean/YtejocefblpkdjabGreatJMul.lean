/-
  Joined: Mul Power PowerNo.
-/
import Derived.Test.YtejocefblpkdjabGreatJQOff
import Derived.Test.YtejocefblpkdjabGreatJEnds
import Derived.Laws.EntriesVeiled
import Derived.Test.YtejocefblpkdjabGreatJLenOf
import Derived.Test.YtejocefblpkdjabGreatJCmp
namespace Go.Proofs.YtejocefblpkdjabGreat
open Go.RowKit
set_option maxRecDepth 100000 in
set_option maxHeartbeats 1000000 in
theorem byHalves_any {lo lo' : Nat} {sa sb : Value} {xs ys : List Int} {w : World} (ha : Seg lo w sa xs) (hb : Seg lo' w sb ys) (hla : xs.length ≤ 4000) (hlb : ys.length ≤ 4000) (least : Nat) (hleast : 2 ≤ least ∧ least ≤ 1000) :
    Calls Tryz.prog 71 #[sa, sb, .int .i64 least] w fun e w' => ∃ (a : Option Addr) (cap : Nat) (zs : List Int), e = .returned (.slice a zs.length cap) ∧ Seg w.heap.size w' (.slice a zs.length cap) zs ∧ Norm zs ∧ val zs = val xs * val ys ∧ zs.length ≤ xs.length + ys.length ∧ Below w.heap.size w w' := by
  have h1 := val_nonneg ha.words
  have h2 := val_nonneg hb.words
  have HN : Hid (val xs + val ys < (((val xs + val ys).toNat + 1 : Nat) : Int)) := by rw [Hid]; omega
  clear h1 h2
  go_enter Tryz.func71, Tryz.ntmps71
  go_wp2_with fail
  have hW : ∀ (t t' : TypeId) (u v : Value), Below w.heap.size w ((w.alloc (.cells #[u] t)).alloc (.cells #[v] t')) := fun t t' u v => ((Below.refl _ w).alloc (Nat.le_refl _) _).alloc (by simp) _
  refine (halves_any w.heap.size (w.heap.size + 1) least hleast ((val xs + val ys).toNat + 1) (ha.below (hW _ _ _ _)) (hb.below (hW _ _ _ _)) hla hlb HN.out (by simp; omega) (by simp) ?_ ?_).mono ?_
  · exact ((Boxed.new w _ _).alloc _).cell
  · have := fun t => (Boxed.new (w.alloc (.cells #[.int .i64 least] 3)) t (.func (.func 84) #[] #[.pointer (some ⟨w.heap.size, 0, none⟩), .pointer (some ⟨w.heap.size + 1, 0, none⟩)])).cell
    rw [World.size_alloc] at this
    exact this _
  · rintro e w1 ⟨a1, k1, zs, rfl, hs1, hn1, hv1, hl1, hb1⟩
    have HV := hide hv1
    clear hv1
    go_wp2
    go_ret
    exact ⟨_, _, zs, rfl, hs1.mono (hW _ _ _ _).size, hn1, HV.out, hl1, (hW _ _ _ _).trans (hb1.mono (hW _ _ _ _).size)⟩
set_option maxRecDepth 100000 in
set_option maxHeartbeats 400000 in
theorem mul_any {lo lo' : Nat} {sa sb : Value} {xs ys : List Int} {w : World} (ha : Seg lo w sa xs) (hb : Seg lo' w sb ys) (hla : xs.length ≤ 4000) (hlb : ys.length ≤ 4000) :
    Calls Tryz.prog 57 #[sa, sb] w fun e w' => ∃ (a : Option Addr) (cap : Nat) (zs : List Int), e = .returned (.slice a zs.length cap) ∧ Seg w.heap.size w' (.slice a zs.length cap) zs ∧ Norm zs ∧ val zs = val xs * val ys ∧ zs.length ≤ xs.length + ys.length ∧ Below w.heap.size w w' := by
  have h80 := byHalves_any ha hb hla hlb 80 (by omega)
  rw [show ((80 : Nat) : Int) = 80 from rfl] at h80
  go_enter Tryz.func57, Tryz.ntmps57
  go_wp2_with fail
  refine h80.mono ?_
  rintro e w1 ⟨a1, k1, zs, rfl, hs1, hn1, hv1, hl1, hb1⟩
  have HV := hide hv1
  clear hv1 h80
  go_wp2
  go_ret
  exact ⟨_, _, zs, rfl, hs1, hn1, HV.out, hl1, hb1⟩
end Go.Proofs.YtejocefblpkdjabGreat
namespace Go.Proofs.YtejocefblpkdjabGreat
open Go.RowKit Go.Shelf
attribute [local go_sem] Oper.semAt_some
attribute [local go_sem] Oper.semAt_some
end Go.Proofs.YtejocefblpkdjabGreat
