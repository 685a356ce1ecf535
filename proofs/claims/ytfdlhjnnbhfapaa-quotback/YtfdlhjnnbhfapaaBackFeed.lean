/-
  slices.Backward as a range goes over it whose body may write the places that have come.
-/
import Derived.Test.YtfdlhjnnbhfapaaFeeds
import Derived.Test.YtfdlhjnnbhfapaaBare
namespace Go.Proofs.Ytfdlhjnnbhfapaa
open Go.RowKit Go.Shelf

attribute [local go_sem] Oper.semAt_some

/-- What is read: the box, and the places that are still to come. -/
def BackR (Bs : Nat) (a : Option Addr) (len cap : Nat) (zs : List Int) (pre : List (Place len)) (V : World) : Prop :=
  V.cell? ⟨Bs, 0, none⟩ = some (.slice a len cap) ∧ ∀ j, j + pre.length < len → ∃ b off, a = some ⟨b, off, none⟩ ∧ V.cell? ⟨b, off + j, none⟩ = some (.int .u64 (zs[j]?.getD 0))
/-- Which place is next. -/
def BackN (len : Nat) (pre : List (Place len)) (x : Place len) : Prop := pre.map (·.1) = upto len pre.length ∧ x.1 + pre.length + 1 = len

set_option maxRecDepth 100000 in
set_option maxHeartbeats 2000000 in
theorem backward_feeds (F : Fence) (n : Nat) (h8 : F.fn 58) (hro : F.round = none) (hn : 1 ≤ n) (Bs : Nat) (a : Option Addr) (len cap : Nat) (zs : List Int) (hreach : len ≤ 1000000) (w : World) :
    Feeds F n Try.prog 58 #[.pointer (some ⟨Bs, 0, none⟩)] (fun x : Place len => #[Value.int .i64 (x.1 : Int), Value.int .u64 (zs[x.1]?.getD 0)]) (BackR Bs a len cap zs) (BackN len) (fun ys => ys.map (·.1) = upto len len)
      (fun pre => ∃ k, k ≤ len ∧ pre.map (·.1) = upto len k) w := by
  intro l J Jx W _ _ _ hR hY h0
  refine callsIn_of_wp Try.func58 rfl h8 ?_ hro
  simp only [Try.ntmps58, List.size_toArray, List.length_cons, List.length_nil, Nat.reduceAdd, Nat.reduceSub, Array.replicate_succ, Array.replicate_zero, List.push_toArray, List.append_toArray, List.nil_append, List.cons_append]
  have hb0 := (hR _ _ h0).1
  gi_wp2
  gi_loopw [3] (fun i wr => ∃ (k : Nat) (pre : List (Place len)), k ≤ len ∧ i = .int .i64 ((len : Int) - 1 - k) ∧ pre.map (·.1) = upto len k ∧ J pre wr)
    (fun i _ => (intOf i + 1).toNat)
  case atStart => exact ⟨0, [], Nat.zero_le _, by simp, rfl, h0⟩
  case round =>
    obtain ⟨k, pre, hk, rfl, hpre, hJs⟩ := hrel
    obtain ⟨hbs, hcs⟩ := hR _ _ hJs
    have Hpre : Hid (pre.map (·.1) = upto len k) := hpre
    have hpl : pre.length = k := by have := congrArg List.length hpre; rwa [List.length_map, upto_length] at this
    by_cases hlt : k < len
    · obtain ⟨m, hm⟩ : ∃ m, len = k + 1 + m := ⟨len - 1 - k, by omega⟩
      obtain ⟨b, off, rfl, hcx⟩ := hcs m (by omega)
      have hml : m < len := by omega
      obtain ⟨fn, tmps, assign, body, hy, hR⟩ := hY pre ⟨m, hml⟩ wr hJs ⟨by rw [hpl]; exact hpre, by simp only; omega⟩
      dsimp only at hy
      have hi : ((len : Int) - 1 - k) = m := by omega
      rw [hi]
      have Hm : Hid (len = k + 1 + m) := hm
      have Hpl : Hid (pre.length = k) := hpl
      clear hi hm hpre hpl hcs
      gi_wp2
      refine hR.mono ?_
      rintro e W3 (⟨rfl, hJ3⟩ | ⟨rfl, hJx3⟩)
      · gi_wp2
        go_roundw
        case rel =>
          have := Hm.out
          exact ⟨k + 1, pre ++ [⟨m, hml⟩], by omega, by congr 1; omega, by rw [List.map_append, Hpre.out, upto_succ]; simp; omega, hJ3⟩
        case measure => simp [intOf]
      · gi_wp2
        refine bodyPost_ret (results_none rfl _ _ _) rfl ?_
        have := Hm.out
        exact ⟨⟨_, rfl⟩, .inr ⟨_, ⟨k + 1, by omega, by rw [List.map_append, Hpre.out, upto_succ]; simp; omega⟩, hJx3⟩⟩
    · have hkl : k = len := by omega
      clear hpre hpl
      subst hkl
      rw [show ((k : Int) - 1 - k) = -1 by omega]
      gi_wp2
      go_end0
      exact ⟨⟨_, rfl⟩, .inl ⟨pre, Hpre.out, hJs⟩⟩
end Go.Proofs.Ytfdlhjnnbhfapaa
