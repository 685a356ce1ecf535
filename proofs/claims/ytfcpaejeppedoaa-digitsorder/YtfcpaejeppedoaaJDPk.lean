/-
  Joined: DPk DOrdL DOrd.
-/
import Derived.Test.YtfcpaejeppedoaaJSigB
import Derived.Test.YtfcpaejeppedoaaJDPc
import Derived.Test.YtfcpaejeppedoaaKit
import Derived.Test.YtfcpaejeppedoaaJRDiv
import Derived.Test.YtfcpaejeppedoaaJCmp
import Derived.Test.YtfcpaejeppedoaaJDown
import Derived.Test.YtfcpaejeppedoaaJMul
import Derived.Test.YtfcpaejeppedoaaJLenOf
namespace Go.Proofs.Ytfcpaejeppedoaa
open Go.RowKit
set_option maxRecDepth 100000 in
set_option maxHeartbeats 4000000 in
theorem gets_core {lo : Nat} {a : Option Addr} {cap : Nat} {zs : List Int} (s : ByteArray) (e p : Int) {w : World} (h : Seg lo w (.slice a zs.length cap) zs) (hl : s.size ≤ 1000) (hz : zs.length ≤ 1000) (hg : ∀ (ys : List Int) (er q : Int), Words ys → GetIs (getP (octs s)) ys er q → ys = zs ∧ er = e ∧ q = p) :
    Calls Try.prog 22 #[.string s, .slice a zs.length cap, .int .i64 e, .int .i64 p] w fun e w' => e = .returned (.bool true) ∧ Below w.heap.size w w' := by
  have hget := get_any s w (Or.inl hl)
  have HG := hide hg
  obtain ⟨n, hN⟩ : ∃ n, zs.length = n := ⟨_, rfl⟩
  have HN := hide hN
  rw [hN] at h hz ⊢
  clear hg hN
  go_enter Try.func22, Try.ntmps22
  go_wp2_with fail
  refine hget.mono ?_
  rintro ee w1 ⟨a1, c1, ys, er, q, rfl, hs, hi, hle, hb⟩
  obtain ⟨rfl, rfl, rfl⟩ := HG.out ys er q hs.words hi
  have hq := below_new w1 (.cells #[.int .i64 er, .int .i64 q] 62)
  have E : Box (w1.alloc (.cells #[.int .i64 er, .int .i64 q] 62)) w1.heap.size (.cells #[.int .i64 er, .int .i64 q] 62) := Box.put _ rfl
  have h1 := h.below hb
  have h2 := h1.below hq
  have hs2 := hs.below hq
  rw [HN.out] at hs hs2
  obtain ⟨k0, k1, f0, f1⟩ := E.two
  have hsame := same_yes (xs := ys) (by rw [HN.out]; exact hs2) (by rw [HN.out]; exact h2) (by rw [HN.out]; omega)
  rw [HN.out] at hsame
  have HB := hide hb
  simp only [HN.out]
  clear hget hle hi hb
  go_wp2_with fail
  refine hsame.mono ?_
  rintro ee w2 ⟨rfl, hb2⟩
  replace E := E.below hb2
  clear k0 k1 f0 f1 hsame
  obtain ⟨k0, k1, f0, f1⟩ := E.two
  go_wp2
  go_ret
  exact ⟨rfl, HB.out.trans ((hq.trans (hb2.mono hq.size)).mono HB.out.size)⟩
theorem gets_ok {lo : Nat} {a : Option Addr} {cap : Nat} {zs : List Int} (s : ByteArray) {w : World} (h : Seg lo w (.slice a zs.length cap) zs) (hn : Norm zs) (hl : s.size ≤ 1000) (hz : zs.length ≤ 1000) (hg : getP (octs s) = .ok (val zs)) :
    Calls Try.prog 22 #[.string s, .slice a zs.length cap, .int .i64 0, .int .i64 0] w fun e w' => e = .returned (.bool true) ∧ Below w.heap.size w w' :=
  gets_core s 0 0 h hl hz fun ys er q hw hi => by
    rw [hg] at hi
    obtain ⟨hn2, hv⟩ := hi
    exact ⟨norm_unique hw h.words hn2 hn hv, rfl, rfl⟩
theorem gets_no (s : ByteArray) (e p : Int) {w : World} (hl : s.size ≤ 1000) (hg : getP (octs s) = .error (e, p)) :
    Calls Try.prog 22 #[.string s, .slice none 0 0, .int .i64 e, .int .i64 p] w fun e w' => e = .returned (.bool true) ∧ Below w.heap.size w w' :=
  gets_core (lo := 0) (zs := []) s e p (Seg.nil _ _) hl (Nat.zero_le _) fun ys er q hw hi => by
    rw [hg] at hi
    cases hi
    exact ⟨rfl, rfl, rfl⟩
theorem decI_of {bs : List Int} {v : Int} (ho : Octs bs) (h : getZ bs = .ok v) : decI v = bs := (dec_getZ ho h).2.1.symm
def big20 : List Int := [49, 56, 52, 52, 54, 55, 52, 52, 48, 55, 51, 55, 48, 57, 53, 53, 49, 54, 49, 54]
theorem big20_octs : Octs big20 := by unfold big20; intro z hz; simp at hz; omega
theorem big20_dec : decI 18446744073709551616 = big20 := decI_of big20_octs rfl
theorem seg_big {k : Nat} {w : World} (E : Box w k (.cells #[.int .u64 0, .int .u64 1] 39)) : Seg k w (.slice (some ⟨k, 0, none⟩) [0, 1].length 2) [0, 1] := by
  refine ⟨Words.cons (by decide) (Words.cons (by decide) Words.nil), _, _, rfl, Nat.le_refl _, fun _ => ⟨k, 0, rfl, Nat.le_refl _, E.lt, fun j hj => ?_, fun j _ => frozen_of_heap E.what _⟩⟩
  rw [cell_of_heap E.what]
  have hj' : j < 2 := hj
  rcases (by omega : j = 0 ∨ j = 1) with rfl | rfl <;> rfl
set_option maxRecDepth 100000 in
set_option maxHeartbeats 4000000 in
theorem dawake_any (w : World) : Calls Try.prog 6 #[] w fun e w' => e = .returned (.bool true) ∧ Below w.heap.size w w' := by
  have q1 : Below w.heap.size w (w.alloc (.cells #[.int .u64 0, .int .u64 1] 39)) := (Below.refl _ _).alloc (Nat.le_refl _) _
  have E1 : Box (w.alloc (.cells #[.int .u64 0, .int .u64 1] 39)) w.heap.size (.cells #[.int .u64 0, .int .u64 1] 39) := Box.put _ rfl
  have hput := put_any (seg_big E1) (by simp)
  rw [show val [0, 1] = 18446744073709551616 by decide, big20_dec] at hput
  have ht : (strOfNums big20).toList = [49, 56, 52, 52, 54, 55, 52, 52, 48, 55, 51, 55, 48, 57, 53, 53, 49, 54, 49, 54] := by
    rw [strOfNums_toList]
    rfl
  obtain ⟨S, hS⟩ : ∃ S, strOfNums big20 = S := ⟨_, rfl⟩
  rw [hS] at hput ht
  go_enter Try.func6, Try.ntmps6
  go_wp2_with fail
  refine hput.mono ?_
  rintro e w1 ⟨rfl, hb1⟩
  have hB1 := q1.trans (hb1.mono q1.size)
  have q2 : Below w1.heap.size w1 (w1.alloc (.cells #[.int .u64 0, .int .u64 1] 39)) := (Below.refl _ _).alloc (Nat.le_refl _) _
  have E2 : Box (w1.alloc (.cells #[.int .u64 0, .int .u64 1] 39)) w1.heap.size (.cells #[.int .u64 0, .int .u64 1] 39) := Box.put _ rfl
  have hg1 := gets_ok (ByteArray.mk #[49, 56, 52, 52, 54, 55, 52, 52, 48, 55, 51, 55, 48, 57, 53, 53, 49, 54, 49, 54]) (seg_big E2) (Or.inr (by decide)) (by decide) (by simp) rfl
  have hB2 := hB1.trans (q2.mono hB1.size)
  clear hput
  go_wp2_with fail
  refine hg1.mono ?_
  rintro e w2 ⟨rfl, hb2⟩
  have hB3 := hB2.trans (hb2.mono hB2.size)
  have hg2 := gets_no (ByteArray.mk #[48, 48, 55]) 6 1 (w := w2) (by decide) rfl
  clear hg1
  go_wp2_with fail
  refine hg2.mono ?_
  rintro e w3 ⟨rfl, hb3⟩
  go_wp2
  go_ret
  exact ⟨rfl, hB3.trans (hb3.mono hB3.size)⟩
theorem less_bytes : ∀ (l m : List Nat), (∀ d ∈ l, d < 256) → (∀ d ∈ m, d < 256) → Op.bytesLess (l.map UInt8.ofNat) (m.map UInt8.ofNat) = decide (l < m)
  | [], [], _, _ => by simp [Op.bytesLess]
  | _ :: _, [], _, _ => by simp [Op.bytesLess]
  | [], _ :: _, _, _ => by simp [Op.bytesLess]
  | x :: l, y :: m, hl, hm => by
    have ih := less_bytes l m (fun d h => hl d (List.mem_cons_of_mem _ h)) (fun d h => hm d (List.mem_cons_of_mem _ h))
    have hx : x < 256 := hl x (List.mem_cons_self ..)
    have hy : y < 256 := hm y (List.mem_cons_self ..)
    have e1 : (UInt8.ofNat x < UInt8.ofNat y) ↔ x < y := by
      rw [UInt8.lt_iff_toNat_lt, UInt8.toNat_ofNat', UInt8.toNat_ofNat', Nat.mod_eq_of_lt (by omega), Nat.mod_eq_of_lt (by omega)]
    have e2 : (UInt8.ofNat x = UInt8.ofNat y) ↔ x = y := by
      rw [← UInt8.toNat_inj, UInt8.toNat_ofNat', UInt8.toNat_ofNat', Nat.mod_eq_of_lt (by omega), Nat.mod_eq_of_lt (by omega)]
    rw [List.map_cons, List.map_cons, Op.bytesLess, ih, Bool.eq_iff_iff]
    simp only [Bool.or_eq_true, Bool.and_eq_true, decide_eq_true_eq, beq_iff_eq, e1, e2, List.cons_lt_cons_iff]
def shortB (s t : ByteArray) : Bool := decide (s.size < t.size) || (decide (s.size = t.size) && Op.bytesLess s.toList t.toList)
set_option maxRecDepth 100000 in
theorem shorter_any (s t : ByteArray) (w : World) : Calls Try.prog 16 #[.string s, .string t] w fun e w' => e = .returned (.bool (shortB s t)) ∧ w' = w := by
  go_enter Try.func16, Try.ntmps16
  go_wp2
  · rename_i h1 h2
    have h2' : s.size = t.size := by omega
    go_ret
    refine ⟨?_, rfl⟩
    simp [shortB, h2']
  · rename_i h1 h2
    have h2' : s.size ≠ t.size := by omega
    go_ret
    refine ⟨?_, rfl⟩
    simp [shortB, h2']
  · rename_i h1
    have h1' : s.size < t.size := by omega
    go_ret
    refine ⟨?_, rfl⟩
    simp [shortB, h1']
theorem shortB_dec (v u : Int) (hv : 0 ≤ v) (hu : 0 ≤ u) : shortB (strOfNums (decI v)) (strOfNums (decI u)) = decide (v < u) := by
  have ho := dec_order v.toNat u.toNat
  have e : ∀ x : Int, (strOfNums (decI x)).toList = (dec x.toNat).map UInt8.ofNat := fun x => by
    rw [strOfNums_toList, decI, List.map_map]
    exact List.map_congr_left fun b _ => by simp
  have d : ∀ x : Int, ∀ b ∈ dec x.toNat, b < 256 := fun x b hb => by
    have := of_decide_eq_true (dec_dig x.toNat b hb)
    omega
  rw [shortB, e, e, less_bytes _ _ (d v) (d u), strOfNums_size, strOfNums_size, decI, decI, List.length_map, List.length_map, Bool.eq_iff_iff]
  simp only [Bool.or_eq_true, Bool.and_eq_true, decide_eq_true_eq]
  rw [← ho]
  omega
theorem shortB_bytes (v u : Int) (hv : 0 ≤ v) (hu : 0 ≤ u) : shortB (strOfNums (b256 v)) (strOfNums (b256 u)) = decide (v < u) := by
  have ho := digB_order (B := 256) (by omega) v.toNat u.toNat
  have e : ∀ x : Int, (strOfNums (b256 x)).toList = (digB 256 x.toNat).map UInt8.ofNat := fun x => by
    rw [strOfNums_toList, b256, List.map_map]
    exact List.map_congr_left fun b _ => by simp
  have d : ∀ x : Int, ∀ b ∈ digB 256 x.toNat, b < 256 := fun x b hb => digB_lt (by omega) _ b hb
  rw [shortB, e, e, less_bytes _ _ (d v) (d u), strOfNums_size, strOfNums_size, b256, b256, List.length_map, List.length_map, Bool.eq_iff_iff]
  simp only [Bool.or_eq_true, Bool.and_eq_true, decide_eq_true_eq]
  rw [← ho]
  omega
theorem shorter_dec (v u : Int) (hv : 0 ≤ v) (hu : 0 ≤ u) (w : World) : Calls Try.prog 16 #[.string (strOfNums (decI v)), .string (strOfNums (decI u))] w fun e w' => e = .returned (.bool (decide (v < u))) ∧ w' = w := by
  rw [← shortB_dec v u hv hu]
  exact shorter_any _ _ w
theorem shorter_bytes (v u : Int) (hv : 0 ≤ v) (hu : 0 ≤ u) (w : World) : Calls Try.prog 16 #[.string (strOfNums (b256 v)), .string (strOfNums (b256 u))] w fun e w' => e = .returned (.bool (decide (v < u))) ∧ w' = w := by
  rw [← shortB_bytes v u hv hu]
  exact shorter_any _ _ w
theorem cmpI_less (x y : Int) : decide (cmpI x y < 0) = decide (x < y) := by
  unfold cmpI
  split
  · rename_i h; simp [h]
  · rename_i h
    rw [decide_eq_false h]
    split <;> decide
theorem decI_snoc {v n : Int} (hv : 0 < v) (h0 : 0 ≤ n) (h : n < 10) : decI (v * 10 + n) = decI v ++ [n + 48] := by
  have e : (v * 10 + n).toNat = v.toNat * 10 + n.toNat := by omega
  rw [decI, e, dec_snoc (by omega) (by omega), List.map_append, decI]
  congr 1
  simp
  omega
theorem decI_one {n : Int} (h0 : 0 ≤ n) (h : n < 10) : decI n = [n + 48] := by
  rcases Int.lt_or_eq_of_le h0 with h1 | h1
  · rw [decI_pos h1, decP_step h1, show n / 10 = 0 by omega, decP_zero, show n % 10 = n by omega]
    rfl
  · rw [← h1]
    rfl
theorem byt_one (d : Int) (hd : 0 ≤ d ∧ d < 256) (W : World) : Byt W.heap.size (W.alloc (.cells #[.int .u8 d] 5)) (.slice (some ⟨W.heap.size, 0, none⟩) 1 1) [d] := by
  have hh : (W.alloc (.cells #[.int .u8 d] 5)).heap[W.heap.size]? = some (.cells #[.int .u8 d] 5 (0, 0)) := World.alloc_heap_new W _
  refine ⟨fun z hz => by rw [List.mem_singleton.1 hz]; exact hd, _, _, rfl, Nat.le_refl _, fun _ => ⟨_, 0, rfl, Nat.le_refl _, by simp, fun j hj => ?_, fun j _ => frozen_of_heap hh _⟩⟩
  have hj0 : j = 0 := by simpa using hj
  subst hj0
  rw [cell_of_heap hh]
  rfl
theorem two_cut (c d : Int) : (strOfNums ([c] ++ [d])).extract 1 2 = strOfNums [d] := by
  refine ByteArray.ext (Array.toList_inj.1 ?_)
  rw [ByteArray.data_extract, Array.toList_extract, strOfNums_data, strOfNums_data]
  rfl
theorem blen_over {v : Int} (h0 : 0 < v) : 0 < blen v := by
  rcases Nat.eq_zero_or_pos (blen v) with h | h
  · have h1 := (blen_pow v 0).1 (by omega)
    omega
  · exact h
set_option maxRecDepth 100000 in
set_option maxHeartbeats 8000000 in
theorem dorder_far {a b : Option Addr} {la ca lb cb : Nat} (x : Int) {w : World} (h : 12 < la ∨ 12 < lb) :
    Calls Try.prog 4 #[.slice a la ca, .slice b lb cb, .int .i64 x] w fun e w' => e = .returned (.bool true) ∧ Below w.heap.size w w' := by
  have hl1 := fun w => longNat_any a la ca 12 w
  have hl2 := fun w => longNat_any b lb cb 12 w
  obtain ⟨B1, hB1⟩ : ∃ B1, decide ((12 : Int) < (la : Int)) = B1 := ⟨_, rfl⟩
  obtain ⟨B2, hB2⟩ : ∃ B2, decide ((12 : Int) < (lb : Int)) = B2 := ⟨_, rfl⟩
  rw [hB1] at hl1
  rw [hB2] at hl2
  have hor : B1 = true ∨ (B1 = false ∧ B2 = true) := by
    rcases h with h | h
    · exact Or.inl (hB1.symm.trans (decide_eq_true (by omega)))
    · cases B1 with
      | true => exact Or.inl rfl
      | false => exact Or.inr ⟨rfl, hB2.symm.trans (decide_eq_true (by omega))⟩
  clear hB1 hB2 h
  have haw := dawake_any w
  go_enter Try.func4, Try.ntmps4
  go_wp2_with fail
  refine haw.mono ?_
  rintro e w1 ⟨rfl, hb⟩
  clear haw
  rcases hor with rfl | ⟨rfl, rfl⟩
  · go_wp2_with fail
    refine (hl1 _).mono ?_
    rintro e w2 ⟨rfl, rfl⟩
    go_wp2
    go_ret
    exact ⟨rfl, hb⟩
  · go_wp2_with fail
    refine (hl1 _).mono ?_
    rintro e w2 ⟨rfl, rfl⟩
    go_wp2_with fail
    refine (hl2 _).mono ?_
    rintro e w2 ⟨rfl, rfl⟩
    go_wp2
    go_ret
    exact ⟨rfl, hb⟩
set_option maxRecDepth 100000 in
set_option maxHeartbeats 16000000 in
theorem dorder_main {a b : Option Addr} {ca cb : Nat} {xs ys : List Int} (x : Int) (hx : -9223372036854775808 ≤ x ∧ x ≤ 9223372036854775807) {w : World} (A : Seg 0 w (.slice a xs.length ca) xs) (B : Seg 0 w (.slice b ys.length cb) ys) (hla : xs.length ≤ 12) (hlb : ys.length ≤ 12) :
    Calls Try.prog 4 #[.slice a xs.length ca, .slice b ys.length cb, .int .i64 x] w fun e w' => e = .returned (.bool true) ∧ Below w.heap.size w w' := by
  have hl1 := fun w => longNat_any a xs.length ca 12 w
  have hl2 := fun w => longNat_any b ys.length cb 12 w
  rw [decide_eq_false (show ¬ (12 : Int) < (xs.length : Int) by omega)] at hl1
  rw [decide_eq_false (show ¬ (12 : Int) < (ys.length : Int) by omega)] at hl2
  have haw := dawake_any w
  obtain ⟨va, hva⟩ : ∃ v, val xs = v := ⟨_, rfl⟩
  obtain ⟨vb, hvb⟩ : ∃ v, val ys = v := ⟨_, rfl⟩
  have HA := hide hva
  have HB := hide hvb
  have h0a : Hid (0 ≤ va) := by rw [Hid, ← hva]; exact val_nonneg A.words
  have h0b : Hid (0 ≤ vb) := by rw [Hid, ← hvb]; exact val_nonneg B.words
  have hcmp := cmpI_less va vb
  obtain ⟨R, hR⟩ : ∃ R, decide (va < vb) = R := ⟨_, rfl⟩
  rw [hR] at hcmp
  have hs1 := fun w => shorter_dec va vb h0a.out h0b.out w
  have hs2 := fun w => shorter_bytes va vb h0a.out h0b.out w
  rw [hR] at hs1 hs2
  obtain ⟨C, hC⟩ : ∃ C, cmpI va vb = C := ⟨_, rfl⟩
  rw [hC] at hcmp
  have HC := hide hC
  obtain ⟨la, hLA⟩ : ∃ n, xs.length = n := ⟨_, rfl⟩
  obtain ⟨lb, hLB⟩ : ∃ n, ys.length = n := ⟨_, rfl⟩
  obtain ⟨da, hda⟩ : ∃ l, b256 va = l := ⟨_, rfl⟩
  obtain ⟨db, hdb⟩ : ∃ l, b256 vb = l := ⟨_, rfl⟩
  obtain ⟨na, hna⟩ : ∃ n, da.length = n := ⟨_, rfl⟩
  obtain ⟨nb, hnb⟩ : ∃ n, db.length = n := ⟨_, rfl⟩
  have hputA : ∀ w, Seg 0 w (.slice a xs.length ca) xs → _ := fun w A => put_any A (by omega)
  have hputB : ∀ w, Seg 0 w (.slice b ys.length cb) ys → _ := fun w B => put_any B (by omega)
  have hbytA : ∀ w, Seg 0 w (.slice a xs.length ca) xs → _ := fun w A => bytes_any A (by omega)
  have hbytB : ∀ w, Seg 0 w (.slice b ys.length cb) ys → _ := fun w B => bytes_any B (by omega)
  have hcmpc : ∀ w, Seg 0 w (.slice a xs.length ca) xs → Seg 0 w (.slice b ys.length cb) ys → _ := fun w A B => cmp_any A B (by omega) (by omega)
  rw [hva, hda, hna] at hbytA
  rw [hvb, hdb, hnb] at hbytB
  rw [hva] at hputA
  rw [hvb] at hputB
  rw [hva, hvb, hC] at hcmpc
  rw [hda, hdb] at hs2
  obtain ⟨sa, hsa⟩ : ∃ s, strOfNums (decI va) = s := ⟨_, rfl⟩
  obtain ⟨sb, hsb⟩ : ∃ s, strOfNums (decI vb) = s := ⟨_, rfl⟩
  obtain ⟨ta, hta⟩ : ∃ s, strOfNums da = s := ⟨_, rfl⟩
  obtain ⟨tb, htb⟩ : ∃ s, strOfNums db = s := ⟨_, rfl⟩
  rw [hsa] at hputA
  rw [hsb] at hputB
  rw [hsa, hsb] at hs1
  rw [hta, htb] at hs2
  have HSA := hide hsa
  have HLA := hide hLA
  have HTA := hide hta
  have HTB := hide htb
  have HNA := hide hna
  have HNB := hide hnb
  have HL12 := hide hla
  have HL12b := hide hlb
  rw [hLA] at A hl1 hputA hbytA hcmpc ⊢
  rw [hLB] at B hl2 hputB hbytB hcmpc ⊢
  clear hva hvb hR hC hda hdb hna hnb hsa hsb hta htb
  have HPA := hide hputA
  have HPB := hide hputB
  have HYA := hide hbytA
  have HYB := hide hbytB
  have HCM := hide hcmpc
  have HS1 := hide hs1
  have HS2 := hide hs2
  have HCP := hide hcmp
  have hlen : ∀ w, Seg 0 w (.slice a la ca) xs → _ := fun w A => len_any A (show xs.length ≤ 10000 by omega)
  rw [HA.out] at hlen
  obtain ⟨bl, hbl⟩ : ∃ n, blen va = n := ⟨_, rfl⟩
  rw [hbl] at hlen
  have HLEN := hide hlen
  have HBL : Hid ((va = 0 ∧ bl = 0) ∨ (0 < va ∧ (bl : Int) ≠ 0)) := by
    rw [Hid, ← hbl]
    rcases Int.lt_or_eq_of_le h0a.out with h4 | h4
    · right
      have := blen_over h4
      exact ⟨h4, by omega⟩
    · left
      exact ⟨h4.symm, by rw [← h4]; exact blen_zero⟩
  clear hlen hbl
  clear hputA hputB hbytA hbytB hcmpc hs1 hs2 hcmp hLA hLB hla hlb
  have hB := Below.refl w.heap.size w
  go_enter Try.func4, Try.ntmps4
  go_wp2_with fail
  refine haw.mono ?_
  rintro e w1 ⟨rfl, hb⟩
  replace A := A.below hb
  replace B := B.below hb
  replace hB := hB.trans (hb.mono hB.size)
  clear hb haw
  go_wp2_with fail
  refine (hl1 _).mono ?_
  rintro e w2 ⟨rfl, rfl⟩
  clear hl1
  go_wp2_with fail
  refine (hl2 _).mono ?_
  rintro e w3 ⟨rfl, rfl⟩
  clear hl2
  go_wp2_with fail
  refine (HCM.out _ A B).mono ?_
  rintro e w4 ⟨rfl, hb⟩
  replace A := A.below hb
  replace B := B.below hb
  replace hB := hB.trans (hb.mono hB.size)
  clear hb
  go_wp2_with fail
  rw [HCP.out]
  replace A := A.drew
  replace B := B.drew
  have hr := Below.refl w4.drew.heap.size w4.drew
  have t0 : Hid True := trivial
  go_region_with
    (first
    | (clear t0
       go_at_call 9
       refine (HPA.out _ A).mono ?_
       rintro e w5 ⟨rfl, hb⟩
       replace A := A.below hb
       replace B := B.below hb
       replace hr := hr.trans (hb.mono hr.size)
       clear hb
       have t1 : Hid True := trivial)
    | (clear t1
       go_at_call 9
       refine (HPB.out _ B).mono ?_
       rintro e w6 ⟨rfl, hb⟩
       replace A := A.below hb
       replace B := B.below hb
       replace hr := hr.trans (hb.mono hr.size)
       clear hb
       have t2 : Hid True := trivial)
    | (clear t2
       go_at_call 16
       refine (HS1.out _).mono ?_
       rintro e w7 ⟨rfl, rfl⟩
       have t3 : Hid True := trivial)
    | (clear t3
       go_at_call 8
       refine (HYA.out _ A).mono ?_
       rintro e w8 ⟨pa, pc, rfl, D, hb⟩
       replace A := A.below hb
       replace B := B.below hb
       replace hr := hr.trans (hb.mono hr.size)
       have r1 := run_str D
       rw [HTA.out] at r1
       clear hb
       have t4 : Hid True := trivial)
    | (clear t4
       go_at_call 8
       refine (HYB.out _ B).mono ?_
       rintro e w9 ⟨qa, qc, rfl, F, hb⟩
       replace A := A.below hb
       replace B := B.below hb
       replace D := D.below hb
       replace hr := hr.trans (hb.mono hr.size)
       have r2 := run_str D
       rw [HTA.out] at r2
       have r3 := run_str F
       rw [HTB.out] at r3
       clear hb
       have t5 : Hid True := trivial)
    | (clear t5
       go_at_call 16
       refine (HS2.out _).mono ?_
       rintro e w10 ⟨rfl, rfl⟩
       have t6 : Hid True := trivial))
  all_goals
    have hB10 := hB.trans ((Below.trans (Below.drew (Below.refl w4.heap.size w4)) hr).mono hB.size)
    clear HPB HYA HYB HCM HS1 HS2 hr hB r1 r2 r3 D F B t6
    go_wp2_with fail
    refine (pick_below 10 (Or.inr rfl) x hx.1 hx.2 _).mono ?_
    rintro e w11 ⟨n, hn, rfl, rfl⟩
    have hwn : IntKind.u64.wrap (n : Int) = (n : Int) := by rw [IntKind.wrap_u64]; omega
    have hla12 : xs.length ≤ 12 := HL12.out
    go_wp2_with fail
    refine (tgrow_any A (by omega) 10 (by decide)).mono ?_
    rintro e w12 ⟨a1, c1, z1, rfl, S1, N1, V1, l1, hb⟩
    replace A := A.below hb
    replace hB10 := hB10.trans (hb.mono hB10.size)
    have HV1 := hide V1
    clear hb N1 V1
    go_wp2_with fail
    refine (of_any (n : Int) ⟨by omega, by omega⟩ _).mono ?_
    rintro e w13 ⟨a2, c2, z2, rfl, S2, N2, V2, l2, hb⟩
    replace A := A.below hb
    replace S1 := S1.below hb
    replace hB10 := hB10.trans (hb.mono hB10.size)
    have HV2 := hide V2
    clear hb N2 V2
    go_wp2_with fail
    refine (add_any S1 S2 (by omega) (by omega)).mono ?_
    rintro e w14 ⟨a3, c3, z3, rfl, S3, N3, V3, l3, hb⟩
    replace A := A.below hb
    replace hB10 := hB10.trans (hb.mono hB10.size)
    have HV3 : Hid (val z3 = va * 10 + n) := by rw [Hid, V3, HV1.out, HV2.out, HA.out]
    have HL3 : Hid (z3.length ≤ 1000) := by rw [Hid]; omega
    clear hb N3 V3 S1 S2 l1 l2 l3 HV1 HV2
    obtain ⟨m3, hm3⟩ : ∃ m, z3.length = m := ⟨_, rfl⟩
    have hputZ : Hid (∀ w, Seg 0 w (.slice a3 m3 c3) z3 → Calls Try.prog 9 #[.slice a3 m3 c3] w fun e w' => e = .returned (.string (strOfNums (decI (va * 10 + n)))) ∧ Below w.heap.size w w') := by
      rw [Hid, ← hm3, ← HV3.out]
      exact fun w h => put_any h HL3.out
    rw [hm3] at S3 ⊢
    replace S3 := S3.mono (Nat.zero_le _)
    clear hm3 hla12
    have hw1 : IntKind.i64.wrap (48 + (n : Int)) = (n : Int) + 48 := by rw [IntKind.wrap_i64]; omega
    have hw2 : IntKind.u8.wrap ((n : Int) + 48) = (n : Int) + 48 := by rw [IntKind.wrap_u8]; omega
    have hd : 0 ≤ (n : Int) + 48 ∧ (n : Int) + 48 < 256 := by omega
    obtain ⟨d, hdd⟩ : ∃ d, (n : Int) + 48 = d := ⟨_, rfl⟩
    rw [hdd] at hw1 hw2 hd
    have HDD := hide hdd
    have HN := hide hn
    clear hdd hn hwn
    obtain ⟨sd, hsd⟩ : ∃ s, strOfNums [d] = s := ⟨_, rfl⟩
    have HSD := hide hsd
    have z2 : sd.size = 1 := by rw [← hsd, strOfNums_size]; rfl
    have z1 : sa.size ≤ 30000 := by
      rw [← HSA.out, strOfNums_size]
      have h1 := A.words
      have h2 : va < pw xs.length := by rw [← HA.out]; exact val_lt h1
      have h3 := HL12.out
      rcases Int.lt_or_eq_of_le h0a.out with h4 | h4
      · rw [decI_pos h4]
        have := decP_len h2
        omega
      · rw [← h4, decI_zero]
        simp
    clear hsd
    go_wp2_with fail
    replace A := A.drew
    replace S3 := S3.drew
    have hr := Below.refl w14.drew.heap.size w14.drew
    have A2 : Seg 0 (w14.drew.alloc (.cells #[.int .u8 d] 5)) (.slice a la ca) xs := A.alloc _
    have r0 : (convert 27 9 (.slice (some ⟨w14.heap.size, 0, none⟩) 1 1)).run Try.prog (w14.alloc (.cells #[.int .u8 d] 5)).drew = .ok (.string (strOfNums [d])) (w14.alloc (.cells #[.int .u8 d] 5)).drew := run_str (byt_one d hd w14).drew
    rw [HSD.out] at r0
    have t0 : Hid True := trivial
    go_region_with
      (first
      | (clear t0
         go_at_call 9
         refine (HPA.out _ (by first | exact A2 | exact A)).mono ?_
         rintro e w15 ⟨rfl, hb⟩
         first
         | (have hq : Below w14.drew.heap.size w14.drew w15 := hb
            have r1 := run_str (byt_one d hd w15)
            rw [HSD.out] at r1)
         | (have hq : Below w14.drew.heap.size w14.drew w15 := (Below.refl _ _).alloc (Nat.le_refl _) _ |>.trans (hb.mono (by simp))
            have r1 : (convert 27 9 (.slice (some ⟨w14.heap.size, 0, none⟩) 1 1)).run Try.prog w15 = .ok (.string (strOfNums [d])) w15 := run_str ((byt_one d hd w14.drew).below hb)
            rw [HSD.out] at r1)
         replace A := A.below hq
         replace S3 := S3.below hq
         clear hb))
    all_goals
      have hB15 := hB10.trans ((Below.trans (Below.drew (Below.refl w14.heap.size w14)) hq).mono hB10.size)
      clear r0 r1 A2 hr HPA hq hB10
      obtain ⟨W0, hW0⟩ : ∃ s, sa ++ sd = s := ⟨_, rfl⟩
      rw [hW0]
      have HW : Hid (strOfNums (decI va ++ [d]) = W0) := by rw [Hid, ← hW0, ← HSA.out, ← HSD.out, strOfNums_append]
      clear hW0 z1 z2
      rcases HBL.out with ⟨hv0, hL0⟩ | ⟨hv0, hL0⟩
      · have hz2 : W0.size = 2 := by rw [← HW.out, hv0, decI_zero, strOfNums_size]; rfl
        have HP : Hid (strOfNums (decI (va * 10 + n)) = W0.extract 1 2) := by
          rw [Hid, ← HW.out, hv0, Int.zero_mul, Int.zero_add, decI_one (by omega) HN.out, HDD.out, decI_zero]
          exact (two_cut 48 d).symm
        have hputZ' := hputZ.out
        rw [HP.out] at hputZ'
        have HPZ := hide hputZ'
        have hL00 : ((bl : Nat) : Int) = 0 := by omega
        clear hputZ hputZ' hv0 hL0
        go_wp2_with fail
        refine (HLEN.out _ (by first | exact A | exact A.alloc _)).mono ?_
        rintro e w16 ⟨rfl, hb⟩
        have hq16 : Below w15.heap.size w15 w16 := by first | exact hb | exact ((Below.refl _ _).alloc (Nat.le_refl _) _).trans (hb.mono (by simp))
        have S6 := S3.below hq16
        have hB16 := hB15.trans (hq16.mono hB15.size)
        rw [hL00]
        clear hb hq16 S3 A hB15 hL00 HLEN
        go_wp2_with fail
        refine (HPZ.out _ S6).mono ?_
        rintro e w17 ⟨rfl, hb⟩
        clear HPZ
        go_wp2
        have he : ((W0.extract 1 2).toList == (W0.extract (min (1 : Int) 2).toNat 2).toList) = true := by rw [show (min (1 : Int) 2).toNat = 1 from rfl]; exact beq_self_eq_true _
        rw [he]
        go_ret
        exact ⟨rfl, hB16.trans (hb.mono hB16.size)⟩
      · have HP : Hid (strOfNums (decI (va * 10 + n)) = W0) := by
          rw [Hid, ← HW.out, decI_snoc hv0 (by omega) HN.out, HDD.out]
        have hputZ' := hputZ.out
        rw [HP.out] at hputZ'
        have HPZ := hide hputZ'
        clear hputZ hputZ' hv0
        go_wp2_with fail
        refine (HLEN.out _ (by first | exact A | exact A.alloc _)).mono ?_
        rintro e w16 ⟨rfl, hb⟩
        have hq16 : Below w15.heap.size w15 w16 := by first | exact hb | exact ((Below.refl _ _).alloc (Nat.le_refl _) _).trans (hb.mono (by simp))
        have S6 := S3.below hq16
        have hB16 := hB15.trans (hq16.mono hB15.size)
        clear hb hq16 S3 A hB15 HLEN
        go_wp2_with fail
        refine (HPZ.out _ S6).mono ?_
        rintro e w17 ⟨rfl, hb⟩
        clear HPZ
        go_wp2
        go_ret
        exact ⟨rfl, hB16.trans (hb.mono hB16.size)⟩
theorem dorder_any {a b : Option Addr} {la ca lb cb : Nat} {xs ys : List Int} {w : World} (A : Seg 0 w (.slice a la ca) xs) (B : Seg 0 w (.slice b lb cb) ys) (x : Int) (hx : -9223372036854775808 ≤ x ∧ x ≤ 9223372036854775807) :
    Calls Try.prog 4 #[.slice a la ca, .slice b lb cb, .int .i64 x] w fun e w' => e = .returned (.bool true) ∧ Below w.heap.size w w' := by
  by_cases h : 12 < la ∨ 12 < lb
  · exact dorder_far x h
  · obtain ⟨rfl, _⟩ := A.len
    obtain ⟨rfl, _⟩ := B.len
    exact dorder_main x hx A B (by omega) (by omega)
end Go.Proofs.Ytfcpaejeppedoaa
