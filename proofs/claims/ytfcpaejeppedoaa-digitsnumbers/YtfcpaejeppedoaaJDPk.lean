/-
  Joined: DPk DNum.
-/
import Derived.Test.YtfcpaejeppedoaaJSigB
import Derived.Test.YtfcpaejeppedoaaJDPc
import Derived.Test.YtfcpaejeppedoaaKit
import Derived.Test.YtfcpaejeppedoaaJRDiv
namespace Go.Proofs.Ytfcpaejeppedoaa
open Go.RowKit
set_option maxRecDepth 100000 in
set_option maxHeartbeats 4000000 in
theorem gets_core {lo : Nat} {a : Option Addr} {cap : Nat} {zs : List Int} (s : ByteArray) (e p : Int) {w : World} (h : Seg lo w (.slice a zs.length cap) zs) (hl : s.size ≤ 1000) (hz : zs.length ≤ 1000) (hg : ∀ (ys : List Int) (er q : Int), Words ys → GetIs (getP (octs s)) ys er q → ys = zs ∧ er = e ∧ q = p) :
    Calls Try.prog 22 #[.string s, .slice a zs.length cap, .int .i64 e, .int .i64 p] w fun e w' => e = .returned (.bool true) ∧ Below w.heap.size w w' := by
  have hget := get_any s w (Or.inl hl)
  have HG := hide hg
  obtain ⟨n, hN⟩ : ∃ n, zs.length = n := ⟨_, rfl⟩
  have HN := hide hN
  rw [hN] at h hz ⊢
  clear hg hN
  go_enter Try.func22, Try.ntmps22
  go_wp2_with fail
  refine hget.mono ?_
  rintro ee w1 ⟨a1, c1, ys, er, q, rfl, hs, hi, hle, hb⟩
  obtain ⟨rfl, rfl, rfl⟩ := HG.out ys er q hs.words hi
  have hq := below_new w1 (.cells #[.int .i64 er, .int .i64 q] 62)
  have E : Box (w1.alloc (.cells #[.int .i64 er, .int .i64 q] 62)) w1.heap.size (.cells #[.int .i64 er, .int .i64 q] 62) := Box.put _ rfl
  have h1 := h.below hb
  have h2 := h1.below hq
  have hs2 := hs.below hq
  rw [HN.out] at hs hs2
  obtain ⟨k0, k1, f0, f1⟩ := E.two
  have hsame := same_yes (xs := ys) (by rw [HN.out]; exact hs2) (by rw [HN.out]; exact h2) (by rw [HN.out]; omega)
  rw [HN.out] at hsame
  have HB := hide hb
  simp only [HN.out]
  clear hget hle hi hb
  go_wp2_with fail
  refine hsame.mono ?_
  rintro ee w2 ⟨rfl, hb2⟩
  replace E := E.below hb2
  clear k0 k1 f0 f1 hsame
  obtain ⟨k0, k1, f0, f1⟩ := E.two
  go_wp2
  go_ret
  exact ⟨rfl, HB.out.trans ((hq.trans (hb2.mono hq.size)).mono HB.out.size)⟩
theorem gets_ok {lo : Nat} {a : Option Addr} {cap : Nat} {zs : List Int} (s : ByteArray) {w : World} (h : Seg lo w (.slice a zs.length cap) zs) (hn : Norm zs) (hl : s.size ≤ 1000) (hz : zs.length ≤ 1000) (hg : getP (octs s) = .ok (val zs)) :
    Calls Try.prog 22 #[.string s, .slice a zs.length cap, .int .i64 0, .int .i64 0] w fun e w' => e = .returned (.bool true) ∧ Below w.heap.size w w' :=
  gets_core s 0 0 h hl hz fun ys er q hw hi => by
    rw [hg] at hi
    obtain ⟨hn2, hv⟩ := hi
    exact ⟨norm_unique hw h.words hn2 hn hv, rfl, rfl⟩
theorem gets_no (s : ByteArray) (e p : Int) {w : World} (hl : s.size ≤ 1000) (hg : getP (octs s) = .error (e, p)) :
    Calls Try.prog 22 #[.string s, .slice none 0 0, .int .i64 e, .int .i64 p] w fun e w' => e = .returned (.bool true) ∧ Below w.heap.size w w' :=
  gets_core (lo := 0) (zs := []) s e p (Seg.nil _ _) hl (Nat.zero_le _) fun ys er q hw hi => by
    rw [hg] at hi
    cases hi
    exact ⟨rfl, rfl, rfl⟩
theorem decI_of {bs : List Int} {v : Int} (ho : Octs bs) (h : getZ bs = .ok v) : decI v = bs := (dec_getZ ho h).2.1.symm
def big20 : List Int := [49, 56, 52, 52, 54, 55, 52, 52, 48, 55, 51, 55, 48, 57, 53, 53, 49, 54, 49, 54]
theorem big20_octs : Octs big20 := by unfold big20; intro z hz; simp at hz; omega
theorem big20_dec : decI 18446744073709551616 = big20 := decI_of big20_octs rfl
theorem seg_big {k : Nat} {w : World} (E : Box w k (.cells #[.int .u64 0, .int .u64 1] 39)) : Seg k w (.slice (some ⟨k, 0, none⟩) [0, 1].length 2) [0, 1] := by
  refine ⟨Words.cons (by decide) (Words.cons (by decide) Words.nil), _, _, rfl, Nat.le_refl _, fun _ => ⟨k, 0, rfl, Nat.le_refl _, E.lt, fun j hj => ?_, fun j _ => frozen_of_heap E.what _⟩⟩
  rw [cell_of_heap E.what]
  have hj' : j < 2 := hj
  rcases (by omega : j = 0 ∨ j = 1) with rfl | rfl <;> rfl
set_option maxRecDepth 100000 in
set_option maxHeartbeats 4000000 in
theorem dawake_any (w : World) : Calls Try.prog 6 #[] w fun e w' => e = .returned (.bool true) ∧ Below w.heap.size w w' := by
  have q1 : Below w.heap.size w (w.alloc (.cells #[.int .u64 0, .int .u64 1] 39)) := (Below.refl _ _).alloc (Nat.le_refl _) _
  have E1 : Box (w.alloc (.cells #[.int .u64 0, .int .u64 1] 39)) w.heap.size (.cells #[.int .u64 0, .int .u64 1] 39) := Box.put _ rfl
  have hput := put_any (seg_big E1) (by simp)
  rw [show val [0, 1] = 18446744073709551616 by decide, big20_dec] at hput
  have ht : (strOfNums big20).toList = [49, 56, 52, 52, 54, 55, 52, 52, 48, 55, 51, 55, 48, 57, 53, 53, 49, 54, 49, 54] := by
    rw [strOfNums_toList]
    rfl
  obtain ⟨S, hS⟩ : ∃ S, strOfNums big20 = S := ⟨_, rfl⟩
  rw [hS] at hput ht
  go_enter Try.func6, Try.ntmps6
  go_wp2_with fail
  refine hput.mono ?_
  rintro e w1 ⟨rfl, hb1⟩
  have hB1 := q1.trans (hb1.mono q1.size)
  have q2 : Below w1.heap.size w1 (w1.alloc (.cells #[.int .u64 0, .int .u64 1] 39)) := (Below.refl _ _).alloc (Nat.le_refl _) _
  have E2 : Box (w1.alloc (.cells #[.int .u64 0, .int .u64 1] 39)) w1.heap.size (.cells #[.int .u64 0, .int .u64 1] 39) := Box.put _ rfl
  have hg1 := gets_ok (ByteArray.mk #[49, 56, 52, 52, 54, 55, 52, 52, 48, 55, 51, 55, 48, 57, 53, 53, 49, 54, 49, 54]) (seg_big E2) (Or.inr (by decide)) (by decide) (by simp) rfl
  have hB2 := hB1.trans (q2.mono hB1.size)
  clear hput
  go_wp2_with fail
  refine hg1.mono ?_
  rintro e w2 ⟨rfl, hb2⟩
  have hB3 := hB2.trans (hb2.mono hB2.size)
  have hg2 := gets_no (ByteArray.mk #[48, 48, 55]) 6 1 (w := w2) (by decide) rfl
  clear hg1
  go_wp2_with fail
  refine hg2.mono ?_
  rintro e w3 ⟨rfl, hb3⟩
  go_wp2
  go_ret
  exact ⟨rfl, hB3.trans (hb3.mono hB3.size)⟩
set_option maxRecDepth 100000 in
set_option maxHeartbeats 4000000 in
theorem numbers_any {a : Option Addr} {n c : Nat} {xs : List Int} {w : World} (A : Seg 0 w (.slice a n c) xs) :
    Calls Try.prog 3 #[.slice a n c] w fun e w' => e = .returned (.bool true) ∧ Below w.heap.size w w' := by
  have hlong := longNat_any a n c 20 w
  by_cases hl : 20 < n
  · have hd : decide ((20 : Int) < (n : Int)) = true := decide_eq_true (by omega)
    have haw := dawake_any w
    rw [hd] at hlong
    clear hd hl
    go_enter Try.func3, Try.ntmps3
    go_wp2_with fail
    refine hlong.mono ?_
    rintro e w1 ⟨rfl, rfl⟩
    clear hlong
    go_wp2_with fail
    refine haw.mono ?_
    rintro e w1 ⟨rfl, hb⟩
    go_wp2
    go_ret
    exact ⟨rfl, hb⟩
  · have hd : decide ((20 : Int) < (n : Int)) = false := decide_eq_false (by omega)
    rw [hd] at hlong
    obtain ⟨hn, _⟩ := A.len
    subst hn
    have hcopy := copy_any A (by omega)
    clear hd
    go_enter Try.func3, Try.ntmps3
    go_wp2_with fail
    refine hlong.mono ?_
    rintro e w1 ⟨rfl, rfl⟩
    clear hlong
    go_wp2_with fail
    refine hcopy.mono ?_
    rintro e w2 ⟨a2, c2, rfl, S2, hb2⟩
    have hB2 := hb2
    have A2 := A.below hB2
    have hbytes := bytes_any S2 (by omega)
    obtain ⟨ds, hds⟩ : ∃ ds, b256 (val xs) = ds := ⟨_, rfl⟩
    have hdl := b256_len (val_lt A.words)
    obtain ⟨L, hL⟩ : ∃ L, ds.length = L := ⟨_, rfl⟩
    rw [hds, hL] at hdl
    rw [hds, hL] at hbytes
    clear hcopy
    go_wp2_with fail
    refine hbytes.mono ?_
    rintro e w3 ⟨a3, c3, rfl, D3, hb3⟩
    have hB3 := hB2.trans (hb3.mono hB2.size)
    have S3 := S2.below hb3
    have A3 := A2.below hb3
    have hput := put_any S3 (by omega)
    clear hbytes
    go_wp2_with fail
    refine hput.mono ?_
    rintro e w4 ⟨rfl, hb4⟩
    have hB4 := hB3.trans (hb4.mono hB3.size)
    have S4 := S3.below hb4
    have A4 := A3.below hb4
    have D4 := D3.below hb4
    have hput2 := jput_any A4 (by omega)
    clear hput
    go_wp2_with fail
    refine hput2.mono ?_
    rintro e w5 ⟨rfl, hb5⟩
    have hB5 := hB4.trans (hb5.mono hB4.size)
    have S5 := S4.below hb5
    have A5 := A4.below hb5
    have D5 := D4.below hb5
    have hbytes2 := jbytes_any A5 (by omega)
    rw [hds, hL] at hbytes2
    obtain ⟨T, hT⟩ : ∃ T, strOfNums (decI (val xs)) = T := ⟨_, rfl⟩
    rw [hT]
    clear hput2 hT
    go_wp2_with fail
    refine hbytes2.mono ?_
    rintro e w6 ⟨a6, c6, rfl, D6, hb6⟩
    have hB6 := hB5.trans (hb6.mono hB5.size)
    have S6 := S5.below hb6
    have A6 := A5.below hb6
    have D66 := D5.below hb6
    have hsame := sameb_any D66 D6
    rw [decide_eq_true rfl] at hsame
    clear hbytes2
    go_wp2_with fail
    refine hsame.mono ?_
    rintro e w7 ⟨rfl, hb7⟩
    have hB7 := hB6.trans (hb7.mono hB6.size)
    have S7 := S6.below hb7
    have A7 := A6.below hb7
    have D7 := D66.below hb7
    have D7' : Byt w2.heap.size w7 (.slice a3 ds.length c3) ds := by rw [hL]; exact D7
    have hover := overb_fr D7' (by omega) (w7.heap.size) D7'.block
    rw [hL] at hover
    clear hsame
    go_wp2_with fail
    refine hover.mono ?_
    rintro e w8 ⟨rfl, hb8, _⟩
    have hB8 := hB7.trans (hb8.mono hB2.size)
    have A8 : Seg 0 w8 (.slice a xs.length c) xs := A.below hB8
    have S8 : Seg w1.heap.size w8 (.slice a2 xs.length c2) xs := S2.below ((((hb3.trans (hb4.mono hb3.size)).trans (hb5.mono (Nat.le_trans hb3.size hb4.size))).trans (hb6.mono (Nat.le_trans (Nat.le_trans hb3.size hb4.size) hb5.size))).trans (hb7.mono (Nat.le_trans (Nat.le_trans (Nat.le_trans hb3.size hb4.size) hb5.size) hb6.size)) |>.trans hb8)
    have hsame2 := same_yes S8 A8 (by omega)
    clear hover
    go_wp2_with fail
    refine hsame2.mono ?_
    rintro e w9 ⟨rfl, hb9⟩
    have hB9 := hB8.trans (hb9.mono hB8.size)
    have haw := dawake_any w9
    clear hsame2
    go_wp2_with fail
    refine haw.mono ?_
    rintro e w10 ⟨rfl, hb10⟩
    go_wp2
    go_ret
    exact ⟨rfl, hB9.trans (hb10.mono hB9.size)⟩
end Go.Proofs.Ytfcpaejeppedoaa
