/-
  The walk of the document's Mul.
-/
import Derived.Test.YtkehlclnljadjaaJHalves
import Derived.Deep.DeepCutAuto
namespace Go.Proofs.Ytkehlclnljadjaa
open Go.RowKit

/-- append(Nat{0}, out...): one nought ahead. -/
theorem append_zero {lo base : Nat} {W : World} {g : Nat} {a : Option Addr} {cap : Nat} {zs : List Int} (hg : W.cell? ⟨g, 0, none⟩ = some (.int .u64 0)) (hf : W.frozen? ⟨g, 0, none⟩ = false) (hgs : g < W.heap.size) (hbg : base ≤ g) (h : Seg lo W (.slice a zs.length cap) zs) (hl : zs.length ≤ 10000) :
    ∃ a' cap' w', (Builtin.append_ #[25, 25] 25 #[.slice (some ⟨g, 0, none⟩) 1 1, .slice a zs.length cap]).run Try.prog W = .ok (.slice a' (zs.length + 1) cap') w' ∧ Seg base w' (.slice a' (zs.length + 1) cap') (0 :: zs) ∧ Below W.heap.size W w' := by
  by_cases hz : zs = []
  · subst hz
    refine ⟨_, _, _, append_none _ 1 1 (Nat.le_refl _) a cap _ _, ⟨Words.cons (by decide) Words.nil, _, _, rfl, Nat.le_refl _, fun _ => ⟨g, 0, rfl, hbg, hgs, fun j hj => ?_, fun j hj => ?_⟩⟩, Below.refl _ _⟩
    · obtain rfl : j = 0 := by simpa using hj
      exact hg
    · obtain rfl : j = 0 := by simpa using hj
      exact hf
  · obtain ⟨i0, hi, hz0, hz1, hz2⟩ := info_parts infoU64
    obtain ⟨b, off, rfl, e2, e3⟩ := h.row (List.length_pos_iff.2 hz)
    have hp := List.length_pos_iff.2 hz
    have hsrc : Src Try.prog i0.size 25 (.slice (some ⟨b, off, none⟩) zs.length cap) zs.length (zs.map (Value.int .u64)) W := by
      rw [hz1]
      refine Src.ofSlice W Try.underlying25 ⟨b, off, none⟩ zs.length cap _ (by simp) (fun j u hj => ?_) (fun u hu => by obtain ⟨z, _, rfl⟩ := List.mem_map.1 hu; rfl)
      rw [List.getElem?_map] at hj
      obtain ⟨z, hz', rfl⟩ := Option.map_eq_some_iff.1 hj
      have hjl : j < zs.length := (List.getElem?_eq_some_iff.1 hz').1
      have := (h.cell (j := j) hjl).1
      rw [hz'] at this
      rw [Addr.add_lit]
      exact this
    have hold : (Builtin.firstCells i0.size 1 (.slice (some ⟨g, 0, none⟩) 1 1)).run Try.prog W.drew = .ok [Value.int .u64 0].toArray W.drew := by
      rw [hz1]
      refine run_firstCells_some W.drew 1 1 ⟨g, 0, none⟩ 1 1 [.int .u64 0] rfl (fun j v hj => ?_)
      obtain rfl : j = 0 := by
        cases j with
        | zero => rfl
        | succ j => simp at hj
      obtain rfl : Value.int .u64 0 = v := by simpa using hj
      rw [Addr.add_lit]
      exact hg
    have hrun := run_append_grow_src (P := Try.prog) W 25 25 25 41 i0 (.int .u64 0) Try.underlying25 hi hz0 (some ⟨g, 0, none⟩) 1 1 [.int .u64 0] hold _ zs.length _ hsrc (by omega) (by omega) (growslice_fits (by omega) (by rw [hz2]; omega))
    rw [Nat.add_comm 1 zs.length] at hrun
    have hle : zs.length + 1 ≤ grownCap W (zs.length + 1) 1 41 := grownCap_ge _ _ _ _
    refine ⟨_, _, _, hrun, ⟨Words.cons (by decide) h.words, _, _, rfl, by simpa using hle, fun _ => ⟨W.heap.size, 0, rfl, by omega, by simp, fun j hj => ?_, fun j hj => ?_⟩⟩, (Below.refl _ _).drew.alloc (Nat.le_refl _) _⟩
    · have hh := World.alloc_heap_new W.drew (.cells (([Value.int .u64 0] ++ zs.map (Value.int .u64)).toArray ++ Builtin.zeroCells (Value.int .u64 0).cells (grownCap W (zs.length + 1) 1 41 - (zs.length + 1))) 41)
      rw [show W.drew.heap.size = W.heap.size from rfl] at hh
      rw [cell_of_heap hh, Nat.zero_add]
      rw [Array.getElem?_append_left (by simpa using hj)]
      cases j with
      | zero => simp
      | succ j =>
        have hj' : j < zs.length := by simpa using hj
        simp [hj']
    · have hh := World.alloc_heap_new W.drew (.cells (([Value.int .u64 0] ++ zs.map (Value.int .u64)).toArray ++ Builtin.zeroCells (Value.int .u64 0).cells (grownCap W (zs.length + 1) 1 41 - (zs.length + 1))) 41)
      rw [show W.drew.heap.size = W.heap.size from rfl] at hh
      exact frozen_of_heap hh _
/-- That append as one step of a region that draws. -/
theorem step_append_zero {ops : Array Oper} {o : Oper} {a : Act} {W : World} {K : Act → World → Prop} {Q : Exit → Act → World → Prop} {E : Prop} (hgd : o.guard = none) (s x : Operand)
    (ho : o.op = .call { callee := .builtin .append, args := #[s, x], argTypes := #[25, 25] }) (hty : o.type = 25) (g : Nat) (hs : a.eval s = .slice (some ⟨g, 0, none⟩) 1 1) (ax : Option Addr) (cx : Nat) (zs : List Int) (hx : a.eval x = .slice ax zs.length cx) (lo base : Nat)
    (hg : W.cell? ⟨g, 0, none⟩ = some (.int .u64 0)) (hf : W.frozen? ⟨g, 0, none⟩ = false) (hgs : g < W.heap.size) (hbg : base ≤ g) (h : Seg lo W (.slice ax zs.length cx) zs) (hl : zs.length ≤ 10000)
    (hK : ∀ a' cap' w', Seg base w' (.slice a' (zs.length + 1) cap') (0 :: zs) → Below W.heap.size W w' → K (a.put o.dst (.slice a' (zs.length + 1) cap')) w') :
    if Region.wanted o (yielded ops a.tmps) = true then Oper.wp Try.prog o a W K Q else E := by
  have hw : Region.wanted o (yielded ops a.tmps) = true := by simp [Region.wanted, hgd]
  rw [if_pos hw]
  obtain ⟨a', cap', w', hr, h1, h2⟩ := append_zero hg hf hgs hbg h hl
  exact Lib.wp_append_run W s x 25 25 ho _ _ hs hx _ _ (by rw [hty]; exact hr) (hK a' cap' w' h1 h2)

theorem len_fits {zs : List Int} {m : Nat} (hw : Words zs) (hn : Norm zs) (h : val zs < pw m) : zs.length ≤ m := by
  by_cases e : zs = []
  · subst e; simp
  · have a := norm_val hw hn e
    rcases Nat.lt_or_ge m zs.length with h1 | h1
    · have := pw_mono (m := m) (n := zs.length - 1) (by omega)
      omega
    · exact h1

set_option maxRecDepth 100000 in
set_option maxHeartbeats 4000000 in
/-- The document's Mul. -/
theorem rmul_any {lo lo' : Nat} {a b : Option Addr} {ca cb : Nat} {xs ys : List Int} {w : World} (ha : Seg lo w (.slice a xs.length ca) xs) (hb : Seg lo' w (.slice b ys.length cb) ys) (hla : xs.length ≤ 4000) (hlb : ys.length ≤ 4000) :
    Calls Try.prog 34 #[.slice a xs.length ca, .slice b ys.length cb] w fun e w' => ∃ (a' : Option Addr) (cap : Nat) (zs : List Int), e = .returned (.slice a' zs.length cap) ∧ Seg w.heap.size w' (.slice a' zs.length cap) zs ∧ Norm zs ∧ val zs = val xs * val ys ∧ zs.length ≤ xs.length + ys.length ∧ Below w.heap.size w w' := by
  obtain ⟨n, hn⟩ : ∃ n, xs.length = n := ⟨_, rfl⟩
  obtain ⟨m, hm⟩ : ∃ m, ys.length = m := ⟨_, rfl⟩
  have HN : Hid (xs.length = n ∧ ys.length = m) := ⟨hn, hm⟩
  have hwx := ha.words
  have hwy := hb.words
  rw [hn] at ha hla ⊢
  rw [hm] at hb hlb ⊢
  clear hn hm
  go_enter Try.func34, Try.ntmps34
  go_wp2
  go_loopw [5, 6] (fun out i wr => ∃ (k : Nat) (ao : Option Addr) (co : Nat) (ss : List Int), k ≤ m ∧ i = .int .i64 ((m : Int) - 1 - k) ∧ out = .slice ao ss.length co ∧ Seg w.heap.size wr (.slice ao ss.length co) ss ∧ Norm ss ∧ Hid (val ss = val xs * val (ys.drop (m - k))) ∧ Below w.heap.size w wr) (fun _ i _ => (intOf i + 1).toNat)
  case atStart => exact ⟨0, none, 0, [], Nat.zero_le _, by simp, rfl, Seg.nil _ _, norm_nil, by rw [Hid, Nat.sub_zero, List.drop_eq_nil_of_le (by rw [HN.out.2]; exact Nat.le_refl _), val_nil, Int.mul_zero], Below.refl _ _⟩
  case round =>
    obtain ⟨k, ao, co, ss, hk, rfl, rfl, hss, hns, HE, hbr⟩ := hrel
    have hsl : ss.length ≤ n + k := by
      refine len_fits hss.words hns ?_
      have := mul_fits hwx (hwy.drop (m - k))
      rw [List.length_drop, HN.out.1, HN.out.2, show m - (m - k) = k by omega] at this
      rw [HE.out]; exact this
    by_cases hkm : k < m
    · obtain ⟨j, hj⟩ : ∃ j, m = k + 1 + j := ⟨m - 1 - k, by omega⟩
      have hi : ((m : Int) - 1 - k) = j := by omega
      have hsr := hb.below hbr
      obtain ⟨g, o2, rfl, _, _⟩ := hsr.row (by omega)
      have hac := (hsr.cell (j := j) (by omega)).1
      have hy := hwy.getD j
      have HJ : Hid (m - k = j + 1 ∧ m - (k + 1) = j) := by rw [Hid]; omega
      have HD := hide (val_drop ys j)
      have hjm : (j : Int) < (m : Int) := by omega
      have hj4 : j ≤ 4000 := by omega
      rw [hi]
      generalize ys[j]?.getD 0 = y at *
      have hgr : ∀ W, Below wr.heap.size wr W → Calls Try.prog 30 #[.slice a n ca, .int .u64 y] W fun e w' => ∃ (a' : Option Addr) (cap : Nat) (zs : List Int), e = .returned (.slice a' zs.length cap) ∧ Seg W.heap.size w' (.slice a' zs.length cap) zs ∧ Norm zs ∧ Hid (val zs = val xs * y) ∧ zs.length ≤ n + 1 ∧ Below W.heap.size W w' := fun W hW => by
        have := rgrow_any (show Seg lo W (.slice a xs.length ca) xs by rw [HN.out.1]; exact (ha.below hbr).below hW) (by rw [HN.out.1]; omega) y hy
        rw [HN.out.1] at this
        exact this
      clear hi hj
      go_wp2_with fail
      have hA : Below wr.heap.size wr (wr.alloc (.cells #[.int .u64 0] 41)).drew := ((Below.refl _ wr).alloc (Nat.le_refl _) _).drew
      have hacA := (hA.cell (p := ⟨g, o2 + j, none⟩) (hsr.block (List.length_pos_iff.1 (by rw [HN.out.2]; omega)) _ _ rfl)).trans hac
      go_region_law (first
          | (refine step_append_zero rfl (.tmp 14) (.tmp 15) rfl rfl _ rfl ao co ss rfl w.heap.size wr.heap.size ?_ ?_ ?_ ?_ ?_ ?_ ?_
             · exact (Boxed.new wr _ _).cell
             · exact (Boxed.new wr _ _).frozen
             · exact (Boxed.new wr _ _).lt
             · exact Nat.le_refl _
             · exact hss.below hA
             · omega
             intro a1 c1 w1 hs1 hb1
             have hb1' : Below wr.heap.size wr w1 := hA.trans (hb1.mono hA.size)
             have hac1 := (hb1'.cell (p := ⟨g, o2 + j, none⟩) (hsr.block (List.length_pos_iff.1 (by rw [HN.out.2]; omega)) _ _ rfl)).trans hac
             clear hb1)
          | (go_simp
             go_at_call 30
             refine (hgr _ ?_).mono ?_
             · exact hb1'
             rintro e w8 ⟨a8, c8, gz, rfl, hs8, hn8, HV8, hl8, hb8⟩
             have hadd := radd_any (xs := 0 :: ss) (ys := gz) (hs1.below hb8) hs8 (by simp; omega) (by omega)
             simp only [List.length_cons] at hadd
             have hb8' := hb1'.trans (hb8.mono hb1'.size)
             clear hb8
             dsimp only)
          | (go_simp
             go_at_call 47
             refine hadd.mono ?_
             rintro e w9 ⟨a9, c9, zs, rfl, hs9, hn9, hv9, hl9, hb9⟩
             have HV9 : Hid (val zs = 18446744073709551616 * val ss + val xs * y) := by rw [Hid, hv9, val_cons, HV8.out, Int.zero_add]
             clear hv9 hadd
             dsimp only))
      all_goals
        have HFV : Hid (val zs = val xs * val (ys.drop (m - (k + 1)))) := by
          rw [Hid, HV9.out, HJ.out.2, HD.out, HE.out, HJ.out.1, Int.mul_add, Int.mul_left_comm]; omega
        have hbf : Below w.heap.size w w9 := hbr.trans ((hb8'.trans (hb9.mono hb8'.size)).mono hbr.size)
        have hs9' := hs9.mono (show w.heap.size ≤ _ from Nat.le_trans hbr.size hb8'.size)
        clear hs1 hs8 hs9 hsr hac hacA hac1
        go_wp2
        go_roundw
        case rel => exact ⟨k + 1, a9, c9, zs, by omega, by congr 1; have := HJ.out; omega, rfl, hs9', hn9, HFV, hbf⟩
        case measure => simp [intOf]
    · obtain rfl : k = m := by omega
      rw [show ((k : Int) - 1 - k) = -1 by omega]
      have ht := rtrim_any hss (by omega)
      have HF : Hid (val ss = val xs * val ys) := by rw [Hid, HE.out, Nat.sub_self, List.drop_zero]
      rw [HF.out] at ht
      go_wp2_with fail
      refine ht.mono ?_
      rintro e w4 ⟨a4, cap4, zs, rfl, hs4, hn4, hv4, hl4, hb4⟩
      have HV := hide hv4
      clear hv4 ht
      go_wp2
      go_ret
      exact ⟨_, _, zs, rfl, hs4.mono hbr.size, hn4, HV.out, by omega, hbr.trans (hb4.mono hbr.size)⟩
end Go.Proofs.Ytkehlclnljadjaa
