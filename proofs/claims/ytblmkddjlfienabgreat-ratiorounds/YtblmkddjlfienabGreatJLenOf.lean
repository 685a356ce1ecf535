/-
  Joined: LenOf Bits.
-/
import Derived.Test.YtblmkddjlfienabGreatJBare
import Derived.Test.YtblmkddjlfienabGreatLen
namespace Go.Proofs.YtblmkddjlfienabGreat
open Go.RowKit
set_option maxRecDepth 100000 in
set_option maxHeartbeats 400000 in
theorem len_any {lo : Nat} {sv : Value} {zs : List Int} {w : World} (h : Seg lo w sv zs) (hl : zs.length ≤ 10000) :
    Calls Tryz.prog 32 #[sv] w fun e w' => e = .returned (.int .i64 (blen (val zs))) ∧ Below w.heap.size w w' := by
  go_enter Tryz.func32, Tryz.ntmps32
  go_wp2_with fail
  refine (bare_any h (by omega)).mono ?_
  rintro e w1 ⟨a1, cap1, ts, rfl, hs1, hn1, hv1, hl1, hb1⟩
  by_cases h0 : ts = []
  · have HF : Hid (blen (val zs) = 0) := by rw [Hid, ← hv1, h0]; rfl
    subst h0
    clear hv1
    go_wp2
    go_ret
    exact ⟨ret_int (by rw [HF.out]; rfl), hb1⟩
  · have hw := hs1.words
    have HF := hide (blen_words hw hn1 h0)
    rw [hv1] at HF
    have hp : 0 < ts.length := List.length_pos_iff.2 h0
    obtain ⟨b, off, rfl, _, _⟩ := hs1.row hp
    obtain ⟨n, hn⟩ : ∃ n, ts.length = n + 1 := ⟨ts.length - 1, by omega⟩
    have hc := (hs1.cell (j := n) (by omega)).1
    have hd := hw.getD n
    rw [hn] at HF hs1 hl1 ⊢
    rw [Nat.add_sub_cancel] at HF
    generalize ts[n]?.getD 0 = d at *
    have hle := blen_le d hd.1 hd.2
    have hlen := len64_any d w1 hd.1 hd.2
    rw [libLen_eq _ (by omega)] at hlen
    have HB := hide hle
    have hbl : Go.bitLen d.toNat = blen d := rfl
    rw [hbl] at hlen
    clear hv1 hbl hn h0 hp
    have hlz : (((n : Int) + 1) == 0) = false := by simp; omega
    go_wp2_with fail
    refine hlen.mono ?_
    rintro e w2 ⟨rfl, rfl⟩
    go_wp2
    go_ret
    exact ⟨ret_int (by rw [HF.out]; go_num), hb1⟩
end Go.Proofs.YtblmkddjlfienabGreat
namespace Go.Proofs.YtblmkddjlfienabGreat
open Go.RowKit Go.Shelf
attribute [local go_sem] Oper.semAt_some
set_option maxRecDepth 100000 in
set_option maxHeartbeats 400000 in
theorem blen_any (x : Int) (w : World) (h0 : 0 ≤ x) (h1 : x < 18446744073709551616) :
    Calls Tryz.prog 94 #[.int .u64 x] w fun e w' => e = .returned (.int .i64 (blen x)) ∧ w' = w := by
  have hlen := len64_any x w h0 h1
  rw [libLen_eq _ (by omega), show Go.bitLen x.toNat = blen x from rfl] at hlen
  go_enter Tryz.func94, Tryz.ntmps94
  go_wp2_with fail
  refine hlen.mono ?_
  rintro e w1 ⟨rfl, rfl⟩
  go_wp2
  go_ret
  exact ⟨rfl, rfl⟩
def KeepsCell (Bs : Nat) (W W' : World) : Prop := ∀ u, W.cell? ⟨Bs, 0, none⟩ = some u → W'.cell? ⟨Bs, 0, none⟩ = some u
theorem keepsCell_b (Bs : Nat) (W : World) (l : Nat) (o o' : Obj) (h : W.heap[l]? = some o) (ho : o.isCells = false) : KeepsCell Bs W (W.putObj l o') := fun _ hu => cell_kept hu (grownBy_putObj' W l o') (fun r e => by cases e; exact ⟨o, h, ho⟩)
def bitAt (v : Int) (i : Nat) : Bool := bits .and .i64 (v / 2 ^ i) 1 == 1
def topBits (v : Int) (len k : Nat) : List Bool := (List.range k).map fun j => bitAt v (len - 1 - j)
theorem topBits_succ (v : Int) (len k : Nat) : topBits v len (k + 1) = topBits v len k ++ [bitAt v (len - 1 - k)] := by simp [topBits, List.range_succ]
theorem topBits_length (v : Int) (len k : Nat) : (topBits v len k).length = k := by simp [topBits]
set_option maxRecDepth 100000 in
set_option maxHeartbeats 2000000 in
theorem bits1_in (d : Nat) (hd : 1 ≤ d) (l Bs : Nat) (v : Nat) (hv : v ≤ 65536) (J Jx : List Bool → World → Prop)
    (hY : ∀ pre (x : Bool) W, J pre W → pre.length < blen v → YieldAt Fence.wide (d - 1) Tryz.prog l #[.bool x] W fun e W' =>
      (e = .returned (.bool true) ∧ J (pre ++ [x]) W' ∧ KeepsCell Bs W W') ∨ (e = .returned (.bool false) ∧ Jx (pre ++ [x]) W'))
    (W : World) (hBs : W.cell? ⟨Bs, 0, none⟩ = some (.int .i64 v)) (h0 : J [] W) :
    CallsIn Fence.wide d Tryz.prog 93 #[.func (.yield l) #[] #[], .pointer (some ⟨Bs, 0, none⟩)] W fun e W' => (∃ v, e = .returned v) ∧
      ((∃ ys, ys = topBits v (blen v) (blen v) ∧ J ys W') ∨ (∃ pre, True ∧ Jx pre W')) := by
  have hlen := blen_any v W (by omega) (by omega)
  have hb64 := blen_le (v : Int) (by omega) (by omega)
  obtain ⟨len, hl⟩ : ∃ len, blen (v : Int) = len := ⟨_, rfl⟩
  rw [hl] at hlen hY hb64 ⊢
  clear hl
  refine callsIn_of_wp Tryz.func93 rfl trivial ?_ rfl
  simp only [Tryz.ntmps93, List.size_toArray, List.length_cons, List.length_nil, Nat.reduceAdd, Nat.reduceSub, Array.replicate_succ, Array.replicate_zero, List.push_toArray, List.append_toArray, List.nil_append, List.cons_append]
  gi_wp2_with (refine ⟨trivial, ?_⟩; gi_at_call 94; refine (callsIn_wide.2 hlen).mono ?_; rintro e w1 ⟨rfl, rfl⟩)
  gi_loopw [3] (fun i wr => ∃ (k : Nat) (pre : List Bool), k ≤ len ∧ i = .int .i64 ((len : Int) - 1 - k) ∧ pre = topBits v len k ∧ J pre wr ∧ wr.cell? ⟨Bs, 0, none⟩ = some (.int .i64 v))
    (fun i _ => (intOf i + 1).toNat)
  case atStart => exact ⟨0, [], Nat.zero_le _, by simp, rfl, h0, hBs⟩
  case round =>
    obtain ⟨k, pre, hk, rfl, hpre, hJs, hbs⟩ := hrel
    have Hpre := hide hpre
    have hpl : pre.length = k := by rw [hpre, topBits_length]
    by_cases hlt : k < len
    · obtain ⟨m, hm⟩ : ∃ m, len = k + 1 + m := ⟨len - 1 - k, by omega⟩
      obtain ⟨fn, tmps, assign, body, hy, hR⟩ := hY pre (bitAt v m) wr hJs (by omega)
      have hi : ((len : Int) - 1 - k) = m := by omega
      rw [hi]
      have Hm := hide hm
      have hm64 : m ≤ 64 := by omega
      unfold bitAt at hy
      clear hi hm hpre hpl
      gi_wp2
      refine hR.mono ?_
      rintro e W3 (⟨rfl, hJ3, hk3⟩ | ⟨rfl, hJx3⟩)
      · gi_wp2
        go_roundw
        case rel =>
          have := Hm.out
          exact ⟨k + 1, pre ++ [bitAt v m], by omega, by congr 1; omega, by rw [Hpre.out, topBits_succ, show len - 1 - k = m by omega], hJ3, hk3 _ hbs⟩
        case measure => simp [intOf]
      · gi_wp2
        refine bodyPost_ret (results_none rfl _ _ _) rfl ?_
        exact ⟨⟨_, rfl⟩, .inr ⟨_, trivial, hJx3⟩⟩
    · have hkl : k = len := by omega
      clear hpre hpl
      subst hkl
      rw [show ((k : Int) - 1 - k) = -1 by omega]
      gi_wp2
      go_end0
      exact ⟨⟨_, rfl⟩, .inl ⟨pre, Hpre.out, hJs⟩⟩
set_option maxHeartbeats 1000000 in
theorem bitsDown_in (d : Nat) (v : Int) (w : World) :
    CallsIn Fence.wide d Tryz.prog 83 #[.int .i64 v] w fun e w' => e = .returned (.func (.func 93) #[] #[.pointer (some ⟨w.heap.size, 0, none⟩)]) ∧ w' = w.alloc (.cells #[.int .i64 v] 3) := by
  refine callsIn_of_wp Tryz.func83 rfl trivial ?_ rfl
  simp only [Tryz.ntmps83, List.size_toArray, List.length_cons, List.length_nil, Nat.reduceAdd, Nat.reduceSub, Array.replicate_succ, Array.replicate_zero, List.push_toArray, List.append_toArray, List.nil_append, List.cons_append]
  gi_wp2
  go_ret
  exact ⟨rfl, rfl⟩
theorem bits_stops (d : Nat) (hd : 1 ≤ d) (Bs : Nat) (v : Nat) (hv : v ≤ 65536) (w : World) (hBs : Bs < w.heap.size) (hc : w.cell? ⟨Bs, 0, none⟩ = some (.int .i64 v)) :
    SeqStopsK Fence.wide d Tryz.prog 93 #[.pointer (some ⟨Bs, 0, none⟩)] (fun x : Bool => #[Value.bool x]) (KeepsCell Bs) (fun ys => ys = topBits v (blen v) (blen v)) (fun _ => True) (blen v) w := fun l J Jx W hW _ _ hY h0 =>
  bits1_in d hd l Bs v hv J Jx hY W ((hW.cell (p := ⟨Bs, 0, none⟩) hBs).trans hc) h0
def bin (l : List Bool) : Nat := l.foldl (fun a b => 2 * a + b.toNat) 0
theorem bin_snoc (l : List Bool) (b : Bool) : bin (l ++ [b]) = 2 * bin l + b.toNat := by simp [bin]
theorem and_one (a : Nat) (ha : a < 9223372036854775808) : bits .and .i64 (a : Int) 1 = ((a % 2 : Nat) : Int) := by
  have h1 : (BitVec.ofInt 64 (a : Int)).toNat = a := by
    rw [BitVec.ofInt_natCast, BitVec.toNat_ofNat]; exact Nat.mod_eq_of_lt (by omega)
  have h2 : (BitVec.ofInt 64 (1 : Int)).toNat = 1 := rfl
  have e : a &&& 1 = a % 2 := Nat.and_one_is_mod a
  show IntKind.i64.wrap ((BitVec.ofInt 64 (a : Int) &&& BitVec.ofInt 64 (1 : Int)).toNat : Int) = _
  rw [BitVec.toNat_and, h1, h2, e, IntKind.wrap_i64]
  omega
theorem bitAt_nat (v i : Nat) (hv : v ≤ 65536) : (bitAt v i).toNat = v / 2 ^ i % 2 := by
  have e : ((v : Int) / 2 ^ i) = ((v / 2 ^ i : Nat) : Int) := by rw [Int.natCast_ediv, Int.natCast_pow]; rfl
  have hl : v / 2 ^ i ≤ v := Nat.div_le_self _ _
  unfold bitAt
  rw [e, and_one _ (by omega)]
  generalize v / 2 ^ i = q
  rcases Nat.mod_two_eq_zero_or_one q with h | h <;> rw [h] <;> rfl
theorem bin_top (v len : Nat) (hv : v ≤ 65536) (hl : v < 2 ^ len) : ∀ k, k ≤ len → bin (topBits v len k) = v / 2 ^ (len - k)
  | 0, _ => by
    rw [Nat.sub_zero, Nat.div_eq_of_lt hl]; rfl
  | k + 1, h => by
    rw [topBits_succ, bin_snoc, bin_top v len hv hl k (by omega), bitAt_nat _ _ hv, show len - k = len - 1 - k + 1 by omega, show len - (k + 1) = len - 1 - k by omega, Nat.pow_succ, ← Nat.div_div_eq_div_mul]
    omega
theorem lt_blen (v : Nat) : v < 2 ^ blen v := by
  unfold blen Go.bitLen
  rw [Int.toNat_natCast]
  split
  · rename_i h; rw [h]; decide
  · exact Nat.lt_log2_self
theorem bin_all (v : Nat) (hv : v ≤ 65536) : bin (topBits v (blen v) (blen v)) = v := by
  rw [bin_top v _ hv (lt_blen v) _ (Nat.le_refl _), Nat.sub_self, Nat.pow_zero, Nat.div_one]
end Go.Proofs.YtblmkddjlfienabGreat
