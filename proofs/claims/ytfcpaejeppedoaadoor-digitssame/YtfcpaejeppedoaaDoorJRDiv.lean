/-
  Joined: RDiv RGcd DigP DigB DigS DPe QWords FracQ DPf DPg DPa DPb DPi DPj.
-/
import Derived.Test.YtfcpaejeppedoaaDoorRQuot
import Derived.Deep.CutRange
import Derived.Laws.MakeOwn
import Derived.Test.YtfcpaejeppedoaaDoorJNum
import Derived.Laws.BytesArg
import Derived.Deep.LoopGhost
import Derived.Test.YtfcpaejeppedoaaDoorJWiden
import Derived.Test.YtfcpaejeppedoaaDoorKit
import Derived.Test.YtfcpaejeppedoaaDoorJRefD
import Derived.Deep.RegionHeld3
import Derived.Test.YtfcpaejeppedoaaDoorProd
import Derived.Test.YtfcpaejeppedoaaDoorJSmall
import Derived.Laws.OwnMore
import Derived.Test.YtfcpaejeppedoaaDoorJLenOf
namespace Go.Proofs.YtfcpaejeppedoaaDoor
open Go.RowKit
theorem len_below {zs : List Int} {m : Nat} (hw : Words zs) (hn : Norm zs) (h : val zs < pw m) : zs.length ≤ m := by
  by_cases e : zs = []
  · subst e; simp
  · have a := norm_val hw hn e
    rcases Nat.lt_or_ge m zs.length with h1 | h1
    · have := pw_mono (m := m) (n := zs.length - 1) (by omega)
      omega
    · exact h1
theorem words_zeros_lit (n : Nat) (w : World) : Seg w.heap.size (w.alloc (.cells (madeCells (Value.int .u64 0).cells (n * 1)) 40)) (.slice (some ⟨w.heap.size, 0, none⟩) n n) (List.replicate n 0) := by
  have hh : (w.alloc (.cells (madeCells (Value.int .u64 0).cells (n * 1)) 40)).heap[w.heap.size]? = some (.cells (madeCells (Value.int .u64 0).cells (n * 1)) 40 (0, 0)) := World.alloc_heap_new w _
  have hl : (List.replicate n (0 : Int)).length = n := List.length_replicate
  refine ⟨Words.zeros n, _, _, by rw [hl], by rw [hl]; exact Nat.le_refl _, fun _ => ⟨_, 0, rfl, Nat.le_refl _, by simp, fun j hj => ?_, fun j _ => frozen_of_heap hh _⟩⟩
  rw [hl] at hj
  rw [cell_of_heap hh, Nat.zero_add]
  simp [madeCells, Value.cells, Nat.mod_one, hj]
theorem make_any (n : Nat) (hn : n ≤ 100000) : ∃ Z : Obj, (∀ w : World, (Instr.makeSlice 23 (.int .i64 n) (.int .i64 n)).run Tryd.prog w = .ok (.slice (some ⟨w.heap.size, 0, none⟩) n n) (w.alloc Z)) ∧ (∀ w : World, Seg w.heap.size (w.alloc Z) (.slice (some ⟨w.heap.size, 0, none⟩) n n) (List.replicate n 0)) := by
  obtain ⟨i0, hi, hz0, hz1, hz2⟩ := info_parts infoU64
  refine ⟨.cells (madeCells (Value.int .u64 0).cells (n * 1)) 40, fun w => ?_, words_zeros_lit n⟩
  have := run_make (P := Tryd.prog) w 23 40 i0 (.int .u64 0) Tryd.underlying23 hi hz0 .i64 .i64 n n (by omega) (Int.le_refl _) (by rw [hz2]; omega) (by omega)
  rw [Int.toNat_natCast, hz1] at this
  exact this
def cellsOf (W : World) : Value → List Int
  | .slice (some a) len _ => (List.range len).map fun j => intOf ((W.cell? ⟨a.block, a.off + j, none⟩).getD (.int .u64 0))
  | _ => []
theorem Seg.cells {lo : Nat} {W : World} {a : Option Addr} {len cap : Nat} {zs : List Int} (h : Seg lo W (.slice a len cap) zs) : cellsOf W (.slice a len cap) = zs := by
  obtain ⟨hl, _⟩ := h.len
  by_cases h0 : len = 0
  · have hz : zs = [] := List.length_eq_zero_iff.1 (by omega)
    rw [hz, h0]
    cases a <;> rfl
  · obtain ⟨b, off, rfl, _, _⟩ := h.row (by omega)
    apply List.ext_getElem
    · simp [cellsOf, hl]
    · intro j h1 h2
      have := (h.cell (j := j) (by omega)).1
      simp [cellsOf, this, intOf, h2]
def gcdI (a b : Int) : Int := (Nat.gcd a.toNat b.toNat : Nat)
theorem gcdI_zero (a : Int) (h : 0 ≤ a) : gcdI a 0 = a := by
  unfold gcdI
  rw [show (0 : Int).toNat = 0 from rfl, Nat.gcd_zero_right]
  omega
theorem gcdI_step {a b : Int} (ha : 0 ≤ a) (hb : 0 < b) : gcdI b (a % b) = gcdI a b := by
  obtain ⟨a, rfl⟩ := Int.eq_ofNat_of_zero_le ha
  obtain ⟨b, rfl⟩ := Int.eq_ofNat_of_zero_le (Int.le_of_lt hb)
  unfold gcdI
  rw [← Int.natCast_emod, Int.toNat_natCast, Int.toNat_natCast, Int.toNat_natCast, Nat.gcd_comm b, ← Nat.gcd_rec, Nat.gcd_comm]
theorem strOfNums_append (x y : List Int) : strOfNums x ++ strOfNums y = strOfNums (x ++ y) := by
  unfold strOfNums
  rw [ByteArray.mk_append_mk, List.map_append]
def decP (v : Int) : List Int := (digB 10 v.toNat).map (fun d : Nat => (d : Int) + 48)
def decI (v : Int) : List Int := (dec v.toNat).map (fun b : Nat => (b : Int))
theorem decP_zero : decP 0 = [] := by rw [decP, show (0 : Int).toNat = 0 from rfl, digB_zero]; rfl
theorem decI_zero : decI 0 = [48] := rfl
theorem decI_pos {v : Int} (hv : 0 < v) : decI v = decP v := by
  unfold decI decP dec
  rw [if_neg (by omega), List.map_map]
  rfl
theorem decP_step {v : Int} (hv : 0 < v) : decP v = decP (v / 10) ++ [v % 10 + 48] := by
  unfold decP
  have h1 : (v / 10).toNat = v.toNat / 10 := by omega
  have h2 : v % 10 = ((v.toNat % 10 : Nat) : Int) := by omega
  rw [digB_pos (by omega) (by omega), List.map_append, h1, h2]
  rfl
theorem decP_len {v : Int} {n : Nat} (h : v < pw n) : (decP v).length ≤ 20 * n := by
  rw [decP, List.length_map, digB_len (by omega)]
  have h1 : pw n = (((2 ^ 64) ^ n : Nat) : Int) := by
    unfold pw
    rw [Int.natCast_pow]
    rfl
  have h2 : (2 ^ 64 : Nat) ^ n ≤ (10 ^ 20) ^ n := Nat.pow_le_pow_left (by decide) n
  rw [Nat.pow_mul]
  have h3 : 0 < (10 ^ 20 : Nat) ^ n := Nat.pow_pos (by decide)
  omega
def b256 (v : Int) : List Int := (digB 256 v.toNat).map (fun d : Nat => (d : Int))
theorem b256_zero : b256 0 = [] := by rw [b256, show (0 : Int).toNat = 0 from rfl, digB_zero]; rfl
theorem b256_step {P b : Int} (hP : 0 ≤ P) (hb : 0 ≤ b ∧ b < 256) (h : 0 < P * 256 + b) : b256 (P * 256 + b) = b256 P ++ [b] := by
  unfold b256
  have h1 : (P * 256 + b).toNat = P.toNat * 256 + b.toNat := by omega
  rw [h1, digB_snoc (by omega) (by omega) (by omega), List.map_append]
  have h2 : ((b.toNat : Nat) : Int) = b := by omega
  simp only [List.map_cons, List.map_nil, h2]
theorem b256_len {v : Int} {n : Nat} (h : v < pw n) : (b256 v).length ≤ 8 * n := by
  rw [b256, List.length_map, digB_len (by omega)]
  have h1 : pw n = (((2 ^ 64) ^ n : Nat) : Int) := by
    unfold pw
    rw [Int.natCast_pow]
    rfl
  rw [Nat.pow_mul, show (256 : Nat) ^ 8 = 2 ^ 64 by decide]
  have h3 : 0 < (2 ^ 64 : Nat) ^ n := Nat.pow_pos (by decide)
  omega
def soFar (X x : Int) (j : Nat) : Int := X * 256 ^ (8 - j) + x / 256 ^ j
def octs (s : ByteArray) : List Int := s.data.toList.map (fun b : UInt8 => (b.toNat : Int))
theorem octs_len (s : ByteArray) : (octs s).length = s.size := by rw [octs, List.length_map, Array.length_toList]; rfl
theorem octs_octs (s : ByteArray) : Octs (octs s) := by
  intro z hz
  obtain ⟨b, _, rfl⟩ := List.mem_map.1 hz
  have := b.toNat_lt
  omega
theorem octs_at (s : ByteArray) (k : Nat) (h : k < s.size) : (((s[k]'h).toNat : Nat) : Int) = (octs s)[k]?.getD 0 := by
  have h2 : k < s.data.size := h
  rw [octs, List.getElem?_map, Array.getElem?_toList, Array.getElem?_eq_getElem h2]
  rfl
theorem str_octs (s : ByteArray) : strOfNums (octs s) = s := by
  apply ByteArray.ext
  unfold strOfNums octs
  rw [List.map_map]
  have : ((fun n : Int => UInt8.ofNat n.toNat) ∘ fun b : UInt8 => (b.toNat : Int)) = id := by
    funext b
    simp
  rw [this, List.map_id]
theorem octs_str {bs : List Int} (h : Octs bs) : octs (strOfNums bs) = bs := by
  unfold octs
  rw [strOfNums_data, List.map_map]
  conv => rhs; rw [← List.map_id bs]
  refine List.map_congr_left fun x hx => ?_
  have := h x hx
  simp only [Function.comp, id]
  rw [UInt8.toNat_ofNat_of_lt' (by show x.toNat < 256; omega)]
  omega
theorem octs_toList (s : ByteArray) : s.toList = (octs s).map fun n => UInt8.ofNat n.toNat := by
  rw [← strOfNums_toList, str_octs]
def getZ (bs : List Int) : Except (Int × Int) Int :=
  if 10000 < bs.length then .error (4, 10000) else
  match getL (bs.map Int.toNat) with
  | .error i => .error (6, (i : Int))
  | .ok n => if bs = [] then .error (6, 0) else .ok (n : Int)
theorem decI_octs (v : Int) : Octs (decI v) := by
  intro z hz
  obtain ⟨b, hb, rfl⟩ := List.mem_map.1 hz
  have := of_decide_eq_true (dec_dig v.toNat b hb)
  omega
theorem decI_toNat (v : Int) : (decI v).map Int.toNat = dec v.toNat := by
  unfold decI
  rw [List.map_map]
  conv => rhs; rw [← List.map_id (dec v.toNat)]
  exact List.map_congr_left fun x _ => by simp
theorem getZ_dec {v : Int} (hv : 0 ≤ v) (hl : (decI v).length ≤ 10000) : getZ (decI v) = .ok v := by
  unfold getZ
  rw [if_neg (by omega), decI_toNat, get_dec]
  have hne : decI v ≠ [] := by
    intro h
    exact dec_ne_nil v.toNat (List.map_eq_nil_iff.1 h)
  simp only [if_neg hne]
  rw [show ((v.toNat : Nat) : Int) = v by omega]
theorem dec_getZ {bs : List Int} (hb : Octs bs) {v : Int} (h : getZ bs = .ok v) : 0 ≤ v ∧ bs = decI v ∧ bs.length ≤ 10000 := by
  unfold getZ at h
  by_cases hl : 10000 < bs.length
  · rw [if_pos hl] at h; cases h
  · rw [if_neg hl] at h
    cases hg : getL (bs.map Int.toNat) with
    | error i => rw [hg] at h; cases h
    | ok n =>
      rw [hg] at h
      by_cases hn : bs = []
      · simp only [if_pos hn] at h; cases h
      · simp only [if_neg hn] at h
        cases h
        refine ⟨by omega, ?_, by omega⟩
        have e := dec_of_get (by simpa using hn) hg
        unfold decI
        rw [show ((n : Int)).toNat = n from rfl, ← e, List.map_map]
        conv => lhs; rw [← List.map_id bs]
        refine List.map_congr_left fun x hx => ?_
        have := hb x hx
        simp only [Function.comp, id]
        omega
theorem decI_inj {v u : Int} (hv : 0 ≤ v) (hu : 0 ≤ u) (h : decI v = decI u) : v = u := by
  have h1 : (decI v).map Int.toNat = (decI u).map Int.toNat := by rw [h]
  rw [decI_toNat, decI_toNat] at h1
  have := dec_inj h1
  omega
def numZ (bs : List Int) : Int := bs.foldl (fun n b => n * 10 + (b - 48)) 0
def AllDig (bs : List Int) : Prop := ∀ b ∈ bs, 48 ≤ b ∧ b ≤ 57
def allB (bs : List Int) : Bool := bs.all fun b => decide (48 ≤ b ∧ b ≤ 57)
theorem allB_iff (bs : List Int) : allB bs = true ↔ AllDig bs := by simp [allB, AllDig]
theorem AllDig.nil : AllDig [] := fun b hb => by simp at hb
theorem numZ_snoc (bs : List Int) (b : Int) : numZ (bs ++ [b]) = numZ bs * 10 + (b - 48) := by simp [numZ]
theorem foldl_nat (bs : List Int) (h : AllDig bs) : ∀ n : Nat, (((bs.map Int.toNat).map (· - 48)).foldl (fun n d => n * 10 + d) n : Nat) = bs.foldl (fun (n : Int) b => n * 10 + (b - 48)) (n : Int) := by
  induction bs with
  | nil => intro n; rfl
  | cons b bs ih =>
    intro n
    have hb := h b (List.mem_cons_self ..)
    have e : (((n * 10 + (b.toNat - 48)) : Nat) : Int) = (n : Int) * 10 + (b - 48) := by omega
    simp only [List.map_cons, List.foldl_cons]
    rw [ih (fun x hx => h x (List.mem_cons_of_mem _ hx)), e]
theorem numZ_bound (bs : List Int) : AllDig bs → 0 ≤ numZ bs ∧ numZ bs < 10 ^ bs.length := by
  have key : ∀ (n : Nat) (bs : List Int), bs.length = n → AllDig bs → 0 ≤ numZ bs ∧ numZ bs < 10 ^ bs.length := by
    intro n
    induction n with
    | zero => intro bs hl _; rw [List.length_eq_zero_iff.1 hl]; decide
    | succ n ih =>
      intro bs hl h
      have hne : bs ≠ [] := by intro e; rw [e] at hl; simp at hl
      have e := List.dropLast_concat_getLast hne
      have hd : AllDig bs.dropLast := fun b hb => h b (List.dropLast_subset bs hb)
      have hb := h _ (List.getLast_mem hne)
      have hi := ih bs.dropLast (by simp [hl]) hd
      rw [← e, numZ_snoc, List.length_append, List.length_singleton, Int.pow_succ]
      omega
  exact key _ bs rfl
theorem numZ_lt {bs : List Int} {k : Nat} (h : AllDig bs) (hl : bs.length ≤ k) : numZ bs < 10 ^ k := by
  have h1 := (numZ_bound bs h).2
  have h2 : (10 : Int) ^ bs.length = ((10 ^ bs.length : Nat) : Int) := by rw [Int.natCast_pow]; rfl
  have h3 : (10 : Int) ^ k = ((10 ^ k : Nat) : Int) := by rw [Int.natCast_pow]; rfl
  have h4 : (10 : Nat) ^ bs.length ≤ 10 ^ k := Nat.pow_le_pow_right (by omega) hl
  omega
theorem numZ_append (bs cs : List Int) : numZ (bs ++ cs) = numZ bs * 10 ^ cs.length + numZ cs := by
  have key : ∀ (cs : List Int) (a : Int), cs.foldl (fun n b => n * 10 + (b - 48)) a = a * 10 ^ cs.length + numZ cs := by
    intro cs
    induction cs with
    | nil => intro a; simp [numZ]
    | cons c cs ih =>
      intro a
      have e : numZ (c :: cs) = (c - 48) * 10 ^ cs.length + numZ cs := by
        show cs.foldl _ (0 * 10 + (c - 48)) = _
        rw [ih]
        simp
      rw [e, List.foldl_cons, ih, List.length_cons, Int.pow_succ, Int.add_mul]
      grind
  unfold numZ
  rw [List.foldl_append, key]
  rfl
def okZ (bs : List Int) : Prop := bs ≠ [] ∧ AllDig bs ∧ (bs.head? = some 48 → bs.length ≤ 1)
theorem isDig_toNat {b : Int} (hb : 0 ≤ b ∧ b < 256) : isDig b.toNat = true ↔ 48 ≤ b ∧ b ≤ 57 := by
  unfold isDig
  rw [decide_eq_true_iff]
  omega
theorem getZ_iff {bs : List Int} (ho : Octs bs) (hl : bs.length ≤ 10000) (v : Int) : getZ bs = .ok v ↔ okZ bs ∧ v = numZ bs := by
  have hh : (bs.map Int.toNat).head? == some 48 ↔ bs.head? = some 48 := by
    cases bs with
    | nil => simp
    | cons b bs =>
      have := ho b (List.mem_cons_self ..)
      simp
      omega
  have hd : (∀ b ∈ bs.map Int.toNat, isDig b = true) ↔ AllDig bs := by
    constructor
    · intro h b hb
      exact (isDig_toNat (ho b hb)).1 (h _ (List.mem_map_of_mem hb))
    · intro h b hb
      obtain ⟨x, hx, rfl⟩ := List.mem_map.1 hb
      exact (isDig_toNat (ho x hx)).2 (h x hx)
  unfold getZ
  rw [if_neg (by omega)]
  constructor
  · intro h
    cases hg : getL (bs.map Int.toNat) with
    | error i => rw [hg] at h; cases h
    | ok n =>
      rw [hg] at h
      by_cases hn : bs = []
      · simp only [if_pos hn] at h; cases h
      · simp only [if_neg hn] at h
        cases h
        rw [getL, getAt_ok] at hg
        obtain ⟨g1, g2, g3⟩ := hg
        have hA := hd.1 g1
        refine ⟨⟨hn, hA, fun h48 => ?_⟩, ?_⟩
        · have := g2 (hh.2 h48) (by omega)
          simpa using this
        · rw [g3, foldl_nat bs hA]
          rfl
  · rintro ⟨⟨hn, hA, h0⟩, rfl⟩
    have hg : getL (bs.map Int.toNat) = .ok (numZ bs).toNat := by
      rw [getL, getAt_ok]
      refine ⟨hd.2 hA, fun h48 _ => ?_, ?_⟩
      · have := h0 (hh.1 h48)
        simpa using this
      · have := foldl_nat bs hA 0
        have e : numZ bs = ((((bs.map Int.toNat).map (· - 48)).foldl (fun n d => n * 10 + d) 0 : Nat) : Int) := by
          rw [this]
          rfl
        rw [e]
        rfl
    rw [hg]
    simp only [if_neg hn]
    have := (numZ_bound bs hA).1
    rw [show (((numZ bs).toNat : Nat) : Int) = numZ bs by omega]
def okB (bs : List Int) : Bool := !bs.isEmpty && allB bs && (bs.head? != some 48 || decide (bs.length ≤ 1))
theorem okB_iff (bs : List Int) : okB bs = true ↔ okZ bs := by
  unfold okB okZ
  rw [Bool.and_eq_true, Bool.and_eq_true, allB_iff, Bool.or_eq_true, decide_eq_true_iff, and_assoc]
  refine and_congr (by simp) (and_congr Iff.rfl ?_)
  rw [bne_iff_ne]
  constructor
  · rintro (h | h) e
    · exact absurd e h
    · exact h
  · intro h
    by_cases e : bs.head? = some 48
    · exact Or.inr (h e)
    · exact Or.inl e
def firstBad : List Int → Nat
  | [] => 0
  | b :: bs => if 48 ≤ b ∧ b ≤ 57 then firstBad bs + 1 else 0
def wrongI (bs : List Int) : Nat := if allB bs then (if bs = [] then 0 else 1) else firstBad bs
theorem firstBad_at : ∀ (bs : List Int) (i : Nat), i < bs.length → AllDig (bs.take i) → ¬ (48 ≤ bs[i]?.getD 0 ∧ bs[i]?.getD 0 ≤ 57) → firstBad bs = i := by
  intro bs
  induction bs with
  | nil => intro i h; simp at h
  | cons b bs ih =>
    intro i hi hd hb
    cases i with
    | zero => unfold firstBad; rw [if_neg (by simpa using hb)]
    | succ i =>
      have h0 := hd b (by simp)
      unfold firstBad
      rw [if_pos h0, ih i (by simpa using hi) (fun x hx => hd x (by simp [hx])) (by simpa using hb)]
theorem allDig_take_succ {bs : List Int} {i : Nat} (hi : i < bs.length) (h : AllDig (bs.take i)) (hb : 48 ≤ bs[i]?.getD 0 ∧ bs[i]?.getD 0 ≤ 57) : AllDig (bs.take (i + 1)) := by
  intro x hx
  rw [List.take_succ_eq_append_getElem hi] at hx
  rcases List.mem_append.1 hx with hx | hx
  · exact h x hx
  · rw [List.mem_singleton.1 hx]
    rw [List.getElem?_eq_getElem hi] at hb
    exact hb
def getP (bs : List Int) : Except (Int × Int) Int :=
  if 10000 < bs.length then .error (4, 10000) else if okB bs then .ok (numZ bs) else .error (6, (wrongI bs : Int))
theorem getP_ok {bs : List Int} (ho : Octs bs) (v : Int) : getP bs = .ok v ↔ getZ bs = .ok v := by
  by_cases hl : 10000 < bs.length
  · unfold getP getZ
    rw [if_pos hl, if_pos hl]
  · rw [getZ_iff ho (by omega)]
    unfold getP
    rw [if_neg hl]
    by_cases h : okZ bs
    · rw [if_pos ((okB_iff bs).2 h)]
      constructor
      · intro e; cases e; exact ⟨h, rfl⟩
      · rintro ⟨_, rfl⟩; rfl
    · rw [if_neg (fun e => h ((okB_iff bs).1 e))]
      constructor
      · intro e; cases e
      · rintro ⟨h', _⟩; exact absurd h' h
def errZ (b : Int) : Int := if b = 0 then 5 else 0
def remZ (a b : Int) : Int := if b = 0 then 0 else a % b
def dvdB (a b : Int) : Bool := if a = 0 then decide (b = 0) else decide (b % a = 0)
theorem errZ_pos {b : Int} (h : 0 < b) : errZ b = 0 := if_neg (by omega)
theorem remZ_pos (a : Int) {b : Int} (h : 0 < b) : remZ a b = a % b := if_neg (by omega)
theorem remZ_word {a x : Int} (hx : 0 ≤ x ∧ x < 18446744073709551616) : 0 ≤ remZ a x ∧ remZ a x < 18446744073709551616 := by
  unfold remZ
  split
  · decide
  · have := Int.emod_nonneg a (show x ≠ 0 by omega)
    have := Int.emod_lt_of_pos a (show 0 < x by omega)
    omega
def Apart (a1 a2 : Option Addr) (xs ys : List Int) : Prop := xs ≠ [] → ys ≠ [] → ∀ b1 o1 b2 o2, a1 = some ⟨b1, o1, none⟩ → a2 = some ⟨b2, o2, none⟩ → b1 ≠ b2
theorem apart_of {lo hi : Nat} {W : World} {a1 a2 : Option Addr} {n c : Nat} {xs ys : List Int} (h1 : xs ≠ [] → ∀ b o, a1 = some ⟨b, o, none⟩ → b < hi) (S : Seg lo W (.slice a2 n c) ys) (hle : hi ≤ lo) : Apart a1 a2 xs ys := fun hx hy b1 o1 b2 o2 e1 e2 => by
  have a := h1 hx b1 o1 e1
  obtain ⟨hl, _⟩ := S.len
  obtain ⟨b', o', e3, h2, _⟩ := S.row (by rw [hl]; exact List.length_pos_iff.2 hy)
  rw [e2] at e3
  simp only [Option.some.injEq, Addr.mk.injEq] at e3
  omega
theorem apart_nil_left (a1 a2 : Option Addr) (ys : List Int) : Apart a1 a2 [] ys := fun h => absurd rfl h
structure OverT (lo : Nat) (a : Option Addr) (zs : List Int) (w w' : World) : Prop where
  below : Below lo w w'
  other : ∀ k, (zs ≠ [] → ∀ b o, a = some ⟨b, o, none⟩ → k ≠ b) → k < w.heap.size → w'.heap[k]? = w.heap[k]?
end Go.Proofs.YtfcpaejeppedoaaDoor
namespace Go.Proofs.YtfcpaejeppedoaaDoor
theorem gcdI_gcd {a b : Int} (ha : 0 ≤ a) (hb : 0 ≤ b) : gcdI a b = (Int.gcd a b : Int) := by
  unfold gcdI Int.gcd
  rw [show a.toNat = a.natAbs by omega, show b.toNat = b.natAbs by omega]
end Go.Proofs.YtfcpaejeppedoaaDoor
namespace Go.Proofs.YtfcpaejeppedoaaDoor
open Go.RowKit
set_option maxRecDepth 100000 in
set_option maxHeartbeats 4000000 in
theorem getGroup_any (s : ByteArray) (w : World) (hs : s.size ≤ 19) (hd : AllDig (octs s)) : Calls Tryd.prog 38 #[.string s] w fun e w' => e = .returned (.int .u64 (numZ (octs s))) ∧ w = w' := by
  have HLEN := hide (octs_len s)
  have HA := hide hd
  have H0 : Hid ((0 : Int) = numZ ((octs s).take 0)) := by rw [Hid, List.take_zero]; rfl
  clear hd
  go_enter Tryd.func38, Tryd.ntmps38
  go_wp2
  go_loopw [3, 7] (fun xv iv wr => ∃ (i : Nat) (x : Int), xv = .int .u64 x ∧ iv = .int .i64 i ∧ i ≤ s.size ∧ Hid (x = numZ ((octs s).take i)) ∧ w = wr) (fun _ iv _ => s.size - (intOf iv).toNat)
  case atStart => exact ⟨0, 0, rfl, rfl, Nat.zero_le _, H0, rfl⟩
  case round =>
    clear H0
    obtain ⟨i, x, rfl, rfl, hi, HX, rfl⟩ := hrel
    by_cases hlt : i < s.size
    · have hlt2 : (i : Int) < (s.size : Int) := by omega
      have hge : (0 : Int) ≤ (i : Int) := by omega
      have hw1 : IntKind.i64.wrap ((i : Int) + 1) = (i : Int) + 1 := by rw [IntKind.wrap_i64]; omega
      obtain ⟨b, hb⟩ : ∃ b, (octs s)[i]?.getD 0 = b := ⟨_, rfl⟩
      have hby : ∀ h : i < s.size, (((s[i]'h).toNat : Nat) : Int) = b := fun h => by rw [octs_at, hb]
      have hil : i < (octs s).length := by rw [HLEN.out]; exact hlt
      have hbd : 48 ≤ b ∧ b ≤ 57 := by
        rw [← hb, List.getElem?_eq_getElem hil]
        exact HA.out _ (List.getElem_mem hil)
      have hN : numZ ((octs s).take (i + 1)) = x * 10 + (b - 48) := by
        rw [List.take_succ_eq_append_getElem hil, numZ_snoc, ← HX.out, ← hb, List.getElem?_eq_getElem hil]
        rfl
      have hbound := numZ_bound ((octs s).take (i + 1)) (fun y hy => HA.out y (List.mem_of_mem_take hy))
      have hb0 := numZ_bound ((octs s).take i) (fun y hy => HA.out y (List.mem_of_mem_take hy))
      rw [← HX.out] at hb0
      have h19 := numZ_lt (k := 19) (bs := (octs s).take (i + 1)) (fun y hy => HA.out y (List.mem_of_mem_take hy)) (by rw [List.length_take]; omega)
      rw [hN, show (10 : Int) ^ 19 = 10000000000000000000 by decide] at h19
      rw [hN] at hbound
      have hw2 : IntKind.u64.wrap (x * 10) = x * 10 := by rw [IntKind.wrap_u64]; omega
      have hw3 : IntKind.u8.wrap (b - 48) = b - 48 := by rw [IntKind.wrap_u8]; omega
      have hw4 : IntKind.u64.wrap (b - 48) = b - 48 := by rw [IntKind.wrap_u64]; omega
      have hw5 : IntKind.u64.wrap (x * 10 + (b - 48)) = x * 10 + (b - 48) := by rw [IntKind.wrap_u64]; omega
      have HN := hide hN
      clear hb hN hbound hb0 h19 hbd
      go_wp2
      exact ⟨⟨i + 1, x * 10 + (b - 48), by rfl, by simp, by omega, HN.out.symm, trivial⟩, by simp [intOf]; omega⟩
    · have hnl : ¬ (i : Int) < (s.size : Int) := by omega
      have HE : Hid (x = numZ (octs s)) := by rw [Hid, HX.out, List.take_of_length_le (by rw [HLEN.out]; omega)]
      clear HX
      go_wp2
      go_ret
      exact ⟨by rw [HE.out]; rfl, rfl⟩
set_option maxRecDepth 100000 in
set_option maxHeartbeats 4000000 in
theorem wrongAt_any (s : ByteArray) (w : World) (hs : s.size ≤ 10000) : Calls Tryd.prog 36 #[.string s] w fun e w' => ((e = .returned (.tuple #[.int .i64 0, .bool false]) ∧ okZ (octs s)) ∨ (e = .returned (.tuple #[.int .i64 (wrongI (octs s)), .bool true]) ∧ ¬ okZ (octs s))) ∧ w = w' := by
  have HLEN := hide (octs_len s)
  have H0 : Hid (AllDig ((octs s).take 0)) := by rw [Hid, List.take_zero]; exact AllDig.nil
  go_enter Tryd.func36, Tryd.ntmps36
  go_wp2
  go_loopw [7] (fun iv wr => ∃ (i : Nat), iv = .int .i64 i ∧ i ≤ s.size ∧ Hid (AllDig ((octs s).take i)) ∧ w = wr) (fun iv _ => s.size - (intOf iv).toNat)
  case atStart => exact ⟨0, rfl, Nat.zero_le _, H0, rfl⟩
  case round =>
    clear H0
    obtain ⟨i, rfl, hi, HA, rfl⟩ := hrel
    by_cases hlt : i < s.size
    · have hlt2 : (i : Int) < (s.size : Int) := by omega
      have hge : (0 : Int) ≤ (i : Int) := by omega
      have hw1 : IntKind.i64.wrap ((i : Int) + 1) = (i : Int) + 1 := by rw [IntKind.wrap_i64]; omega
      obtain ⟨b, hb⟩ : ∃ b, (octs s)[i]?.getD 0 = b := ⟨_, rfl⟩
      have hby : ∀ h : i < s.size, (((s[i]'h).toNat : Nat) : Int) = b := fun h => by rw [octs_at, hb]
      have hil : i < (octs s).length := by rw [HLEN.out]; exact hlt
      by_cases hbd : 48 ≤ b ∧ b ≤ 57
      · have HN : Hid (AllDig ((octs s).take (i + 1))) := allDig_take_succ hil HA.out (by rw [hb]; exact hbd)
        have hb1 : ¬ b < 48 := by omega
        have hb2 : ¬ b > 57 := by omega
        clear hb hbd hil
        go_wp2
        exact ⟨⟨i + 1, by simp, by omega, HN, trivial⟩, by simp [intOf]; omega⟩
      · have HN : Hid (wrongI (octs s) = i) := by
          have hn : ¬ AllDig (octs s) := fun h => by
            have := h _ (List.getElem_mem hil)
            rw [List.getElem?_eq_getElem hil] at hb
            simp only [Option.getD_some] at hb
            rw [hb] at this
            exact hbd this
          rw [Hid, wrongI, if_neg (fun e => hn ((allB_iff _).1 e))]
          exact firstBad_at _ i hil HA.out (by rw [hb]; exact hbd)
        have HF : Hid (¬ okZ (octs s)) := fun h => by
          have := h.2.1 _ (List.getElem_mem hil)
          rw [List.getElem?_eq_getElem hil] at hb
          simp only [Option.getD_some] at hb
          rw [hb] at this
          exact hbd this
        have hcase : b < 48 ∨ (¬ b < 48 ∧ b > 57) := by omega
        clear hb hbd hil HA
        rcases hcase with h1 | ⟨h1, h2⟩
        all_goals
          go_wp2
          go_ret2
          exact ⟨Or.inr ⟨by rw [HN.out]; rfl, HF.out⟩, rfl⟩
    · have hnl : ¬ (i : Int) < (s.size : Int) := by omega
      have HE : Hid (AllDig (octs s)) := by
        have := HA.out
        rw [List.take_of_length_le (by rw [HLEN.out]; omega)] at this
        exact this
      have hse : s.toList.isEmpty = decide (s.size = 0) := by
        rw [Bool.eq_iff_iff, List.isEmpty_iff, decide_eq_true_iff, octs_toList, List.map_eq_nil_iff, ← octs_len, List.length_eq_zero_iff]
      clear HA
      by_cases h0 : s.size = 0
      · have hn : octs s = [] := List.length_eq_zero_iff.1 (HLEN.out.trans h0)
        have HF : Hid (¬ okZ (octs s)) := fun h => h.1 hn
        have HW : Hid (wrongI (octs s) = 0) := by rw [Hid, hn]; rfl
        rw [decide_eq_true h0] at hse
        clear hn
        go_wp2
        go_ret2
        exact ⟨Or.inr ⟨by rw [HW.out]; rfl, HF.out⟩, rfl⟩
      · rw [decide_eq_false h0] at hse
        obtain ⟨b, hb⟩ : ∃ b, (octs s)[0]?.getD 0 = b := ⟨_, rfl⟩
        have hby : ∀ h : 0 < s.size, (((s[0]'h).toNat : Nat) : Int) = b := fun h => by rw [octs_at, hb]
        have h00 : 0 < s.size := by omega
        have hne : octs s ≠ [] := fun e => h0 (by rw [← HLEN.out, e]; rfl)
        have hhead : (octs s).head? = some b := by
          cases hx : octs s with
          | nil => exact absurd hx hne
          | cons x xs => rw [hx] at hb; simpa using hb
        have HW : Hid (wrongI (octs s) = 1) := by rw [Hid, wrongI, if_pos ((allB_iff _).2 HE.out), if_neg hne]
        by_cases h48 : b = 48
        · subst h48
          by_cases h1 : s.size = 1
          · have HF : Hid (okZ (octs s)) := ⟨hne, HE.out, fun _ => by rw [HLEN.out, h1]; omega⟩
            have h2 : ¬ (s.size : Int) > 1 := by omega
            clear hb hne hhead
            go_wp2
            go_ret2
            exact ⟨Or.inl ⟨rfl, HF.out⟩, rfl⟩
          · have HF : Hid (¬ okZ (octs s)) := fun h => by
              have := h.2.2 hhead
              rw [HLEN.out] at this
              omega
            have h2 : (s.size : Int) > 1 := by omega
            clear hb hne hhead
            go_wp2
            go_ret2
            exact ⟨Or.inr ⟨by rw [HW.out]; rfl, HF.out⟩, rfl⟩
        · have HF : Hid (okZ (octs s)) := ⟨hne, HE.out, fun e => by rw [hhead] at e; injection e with e; exact absurd e h48⟩
          clear hb hne hhead
          go_wp2
          go_ret2
          exact ⟨Or.inl ⟨rfl, HF.out⟩, rfl⟩
theorem norm_of_val {zs : List Int} (hw : Words zs) (h : zs ≠ [] → pw (zs.length - 1) ≤ val zs) : Norm zs := by
  by_cases e : zs = []
  · exact .inl e
  · right
    intro h0
    have hl : zs.length - 1 < zs.length := by have := List.length_pos_iff.2 e; omega
    have h1 := val_take_succ zs (zs.length - 1) hl
    rw [show zs.length - 1 + 1 = zs.length by omega, List.take_length, h0] at h1
    have h2 := val_lt (hw.take (zs.length - 1))
    rw [List.length_take, Nat.min_eq_left (by omega)] at h2
    have := h e
    omega
theorem own_set {lo : Nat} {W : World} {g n cap : Nat} {zs : List Int} (h : Own lo W (.slice (some ⟨g, 0, none⟩) n cap) zs) (hn : zs.length = n) (k : Nat) {x : Int} (hx : 0 ≤ x ∧ x < 18446744073709551616) : Own lo (W.setCell ⟨g, k, none⟩ (.int .u64 x)) (.slice (some ⟨g, 0, none⟩) n cap) (zs.set k x) := by
  obtain ⟨h1, h2⟩ := h
  rw [hn] at h1
  refine ⟨?_, h2.set k hx⟩
  rw [List.length_set, hn, List.map_set]
  exact (h1.stored k _).1
theorem own_row {lo : Nat} {W : World} {a : Option Addr} {n cap : Nat} {zs : List Int} (h : Own lo W (.slice a n cap) zs) (hn : zs.length = n) (h0 : 0 < n) : ∃ b, a = some ⟨b, 0, none⟩ ∧ lo ≤ b ∧ Seg lo W (.slice (some ⟨b, 0, none⟩) n cap) zs := by
  obtain ⟨a', cap', e, hs⟩ := own_seg h
  simp only [Value.slice.injEq] at e
  obtain ⟨rfl, _, rfl⟩ := e
  rw [hn] at hs
  obtain ⟨⟨_, h2⟩, _⟩ := h
  rcases h2 with ⟨e, hz⟩ | ⟨g, cap2, cur, e, hg, _⟩
  · omega
  · simp only [Value.slice.injEq] at e
    obtain ⟨rfl, _, _⟩ := e
    exact ⟨g, rfl, hg, hs⟩
theorem behind_step {ys : List Int} {i : Nat} {c y c' s B T : Int} (hi : i < ys.length) (hy : ys[i]?.getD 0 = y) (h : val (ys.take i) + pw i * (c + B * val (ys.drop i)) = T) (he : 18446744073709551616 * c' + s = y * B + c) :
    val ((ys.set i s).take (i + 1)) + pw (i + 1) * (c' + B * val ((ys.set i s).drop (i + 1))) = T := by
  have hl : i < (ys.set i s).length := by rw [List.length_set]; exact hi
  have e1 : (ys.set i s).take i = ys.take i := by rw [List.take_set, List.set_eq_of_length_le (by rw [List.length_take]; omega)]
  have e2 : (ys.set i s)[i]?.getD 0 = s := by rw [List.getElem?_set_self hi]; rfl
  have e3 : (ys.set i s).drop (i + 1) = ys.drop (i + 1) := by rw [List.drop_set_of_lt (Nat.lt_succ_self i)]
  rw [val_take_succ _ _ hl, e1, e2, e3, pw_succ, ← h, val_drop ys i, hy]
  grind
set_option maxRecDepth 100000 in
set_option maxHeartbeats 4000000 in
theorem putBehind_any {lo : Nat} {v : Value} {zs : List Int} {w : World} (h : Own lo w v zs) (hn : Norm zs) (hl : zs.length ≤ 1000) (hlo : lo ≤ w.heap.size) (g : Int) (hg : 0 ≤ g ∧ g < 10000000000000000000) :
    Calls Tryd.prog 37 #[v, .int .u64 g] w fun e w' => ∃ (a' : Option Addr) (c' : Nat) (ys : List Int), e = .returned (.slice a' ys.length c') ∧ Own lo w' (.slice a' ys.length c') ys ∧ Norm ys ∧ val ys = val zs * 10000000000000000000 + g ∧ ys.length ≤ zs.length + 1 ∧ Below lo w w' := by
  obtain ⟨a, cap, rfl, hs⟩ := own_seg h
  obtain ⟨n, hN⟩ : ∃ n, zs.length = n := ⟨_, rfl⟩
  have HN := hide hN
  rw [hN] at h hs hl
  have HT0 : Hid (val (zs.take 0) + pw 0 * (g + 10000000000000000000 * val (zs.drop 0)) = val zs * 10000000000000000000 + g) := by
    rw [Hid, List.take_zero, List.drop_zero, val_nil, pw_zero]
    omega
  have HT : Hid (∀ ys : List Int, Words ys → val ys = val zs * 10000000000000000000 + g → ys.length = n → Norm ys) := by
    intro ys hw hv hy
    refine norm_of_val hw fun hne => ?_
    have hz : zs ≠ [] := fun e => hne (List.length_eq_zero_iff.1 (by rw [hy, ← hN, e]; rfl))
    have := norm_val hs.words hn hz
    have h0 := val_nonneg hs.words
    rw [hN] at this
    rw [hv, hy]
    omega
  rw [hN]
  clear hN hn
  go_enter Tryd.func37, Tryd.ntmps37
  go_wp2
  go_loopw [5, 15] (fun cv iv wr => ∃ (i : Nat) (c : Int) (ys : List Int), cv = .int .u64 c ∧ iv = .int .i64 i ∧ i ≤ n ∧ 0 ≤ c ∧ c < 10000000000000000000 ∧ ys.length = n ∧ Own lo wr (.slice a n cap) ys ∧ Hid (val (ys.take i) + pw i * (c + 10000000000000000000 * val (ys.drop i)) = val zs * 10000000000000000000 + g) ∧ Below lo w wr) (fun _ iv _ => n - (intOf iv).toNat)
  case atStart => exact ⟨0, g, zs, rfl, rfl, Nat.zero_le _, hg.1, hg.2, HN.out, h, HT0, Below.refl _ _⟩
  case round =>
    clear HT0 h hs hg
    obtain ⟨i, c, ys, rfl, rfl, hi, hc0, hc1, hyl, ho, HS, hB⟩ := hrel
    by_cases hlt : i < n
    · obtain ⟨b, rfl, hlb, hs⟩ := own_row ho hyl (by omega)
      obtain ⟨hcl, hfz⟩ := hs.cell (j := i) hlt
      have hyb := hs.words.getD i
      obtain ⟨y, hy⟩ : ∃ y, ys[i]?.getD 0 = y := ⟨_, rfl⟩
      rw [hy] at hcl hyb
      rw [Nat.zero_add] at hcl hfz
      obtain ⟨P, hP⟩ : ∃ P, y * 10000000000000000000 = P := ⟨_, rfl⟩
      have hPb : 0 ≤ P ∧ P ≤ 18446744073709551615 * 10000000000000000000 := by omega
      have hmul := fun w => mul64_any y 10000000000000000000 hyb ⟨by omega, by omega⟩ w
      rw [hP] at hmul
      obtain ⟨H, hH⟩ : ∃ H, P / 18446744073709551616 = H := ⟨_, rfl⟩
      obtain ⟨L, hL⟩ : ∃ L, P % 18446744073709551616 = L := ⟨_, rfl⟩
      have hadd := fun w => add64 L c 0 (by omega) hc0 (by omega) (by omega) w
      obtain ⟨s, hs2⟩ : ∃ s, (L + c + 0) % 18446744073709551616 = s := ⟨_, rfl⟩
      obtain ⟨o, ho2⟩ : ∃ o, (L + c + 0) / 18446744073709551616 = o := ⟨_, rfl⟩
      rw [hH, hL] at hmul
      rw [hs2, ho2] at hadd
      have hcn : 0 ≤ H + o ∧ H + o < 10000000000000000000 := by omega
      have hsb : 0 ≤ s ∧ s < 18446744073709551616 := by omega
      have hw1 : IntKind.u64.wrap (H + o) = H + o := by rw [IntKind.wrap_u64]; omega
      have hi2 : (i : Int) < (n : Int) := by omega
      have hge : (0 : Int) ≤ (i : Int) := by omega
      have hw2 : IntKind.i64.wrap ((i : Int) + 1) = (i : Int) + 1 := by rw [IntKind.wrap_i64]; omega
      have HE : Hid (18446744073709551616 * (H + o) + s = y * 10000000000000000000 + c) := by rw [Hid]; omega
      have HS2 := hide (behind_step (by omega) hy HS.out HE.out)
      have HO2 := hide (own_set ho hyl i hsb)
      have HC2 := hide hcn
      clear hP hPb hH hL hs2 ho2 hcn hsb hyb hy HE HS ho
      go_wp2_with fail
      refine (hmul _).mono ?_
      rintro e w1 ⟨rfl, rfl⟩
      clear hmul
      go_wp2
      exact ⟨⟨i + 1, H + o, ys.set i s, rfl, by simp, by omega, HC2.out.1, HC2.out.2, by rw [List.length_set]; exact hyl, HO2.out, HS2, hB.setCell (p := ⟨b, i, none⟩) hlb _⟩, by simp [intOf]; omega⟩
    · obtain rfl : i = n := by omega
      have hni : ¬ (i : Int) < (i : Int) := by omega
      have HV : Hid (val ys + pw i * c = val zs * 10000000000000000000 + g) := by
        have := HS.out
        rw [List.take_of_length_le (by omega), List.drop_of_length_le (by omega), val_nil, Int.mul_zero, Int.add_zero] at this
        exact this
      have HW := hide ho.2
      have HY := hide hyl
      clear HS
      by_cases hc : c = 0
      · subst hc
        have HV2 : Hid (val ys = val zs * 10000000000000000000 + g) := by rw [Hid, ← HV.out]; omega
        have HNm := hide (HT.out ys HW.out HV2.out HY.out)
        clear HV hc0 hc1
        go_wp2
        go_ret
        exact ⟨a, cap, ys, by rw [HY.out]; rfl, by rw [HY.out]; exact ho, HNm.out, HV2.out, by rw [HY.out]; omega, hB⟩
      · have hcp : c > 0 := by omega
        rw [← hyl] at ho
        obtain ⟨a', c', w4, hap, ho4, hb4⟩ := own_append ho c ⟨hc0, by omega⟩ (by omega) (Nat.le_trans hlo hB.size)
        have hlen : (ys ++ [c]).length = ys.length + 1 := by simp
        have HV2 : Hid (val (ys ++ [c]) = val zs * 10000000000000000000 + g) := by rw [Hid, val_snoc, HY.out]; exact HV.out
        have HNm : Hid (Norm (ys ++ [c])) := by
          right
          rw [hlen]
          simp
          omega
        have HO4 := hide ho4
        have HL4 := hide hlen
        rw [hyl] at hap
        clear HV hc0 hc1 ho4 hyl hlen hc
        go_wp2_with (at_builtin; refine Lib.wpList_append_run _ rfl _ _ _ _ rfl _ _ rfl rfl _ _ hap ?_)
        go_ret
        refine ⟨a', c', ys ++ [c], by rw [HL4.out, HY.out]; rfl, by rw [HL4.out]; exact HO4.out, HNm.out, HV2.out, by rw [HL4.out, HY.out]; omega, hB.trans hb4⟩
def padP (k v : Nat) : List Int := if _h : v = 0 ∧ k = 0 then [] else padP (k - 1) (v / 10) ++ [((v % 10 : Nat) : Int) + 48]
termination_by v + k
decreasing_by
  have := Nat.div_le_self v 10
  rcases Nat.eq_zero_or_pos v with h | h
  · omega
  · have := Nat.div_lt_self h (show 1 < 10 by omega)
    omega
theorem padP_nil : padP 0 0 = [] := by rw [padP, dif_pos ⟨rfl, rfl⟩]
theorem padP_step {k v : Nat} (h : ¬ (v = 0 ∧ k = 0)) : padP k v = padP (k - 1) (v / 10) ++ [((v % 10 : Nat) : Int) + 48] := by rw [padP, dif_neg h]
theorem padP_dec (v : Nat) : padP 0 v = decP (v : Int) := by
  induction v using Nat.strongRecOn with
  | ind v ih =>
    by_cases h : v = 0
    · subst h; rw [padP_nil]; exact decP_zero.symm
    · rw [padP_step (by omega), show (0 - 1 : Nat) = 0 by omega, ih (v / 10) (Nat.div_lt_self (by omega) (by omega)), decP_step (v := (v : Int)) (by omega)]
      rfl
theorem padP_one (v : Nat) : padP 1 v = decI (v : Int) := by
  rw [padP_step (by omega), show (1 - 1 : Nat) = 0 by omega, padP_dec]
  by_cases h : v = 0
  · subst h
    rw [show (0 / 10 : Nat) = 0 by omega, show ((0 : Nat) : Int) = 0 from rfl, decP_zero, decI_zero]
    rfl
  · rw [decI_pos (by omega), decP_step (v := (v : Int)) (by omega)]
    rfl
theorem padP_len : ∀ (k v : Nat), v < 10 ^ k → (padP k v).length = k := by
  intro k
  induction k with
  | zero =>
    intro v hv
    obtain rfl : v = 0 := by simpa using hv
    rw [padP_nil]; rfl
  | succ k ih =>
    intro v hv
    rw [padP_step (by omega), List.length_append, show (k + 1 - 1 : Nat) = k by omega, ih (v / 10) (by rw [Nat.div_lt_iff_lt_mul (by omega)]; rw [Nat.pow_succ] at hv; exact hv)]
    rfl
theorem padP_len_le : ∀ (k v : Nat), v < 10 ^ 19 → k ≤ 19 → (padP k v).length ≤ 19 := by
  have key : ∀ n k v : Nat, v < 10 ^ n → k ≤ n → (padP k v).length ≤ n := by
    intro n
    induction n with
    | zero =>
      intro k v hv hk
      obtain rfl : v = 0 := by simpa using hv
      obtain rfl : k = 0 := by omega
      rw [padP_nil]; exact Nat.le_refl _
    | succ n ih =>
      intro k v hv hk
      by_cases h : v = 0 ∧ k = 0
      · obtain ⟨rfl, rfl⟩ := h
        rw [padP_nil]; simp
      · rw [padP_step h, List.length_append]
        have := ih (k - 1) (v / 10) (by rw [Nat.div_lt_iff_lt_mul (by omega)]; rw [Nat.pow_succ] at hv; exact hv) (by omega)
        simp
        omega
  exact fun k v hv hk => key 19 k v hv hk
theorem decP_group : ∀ (k q r : Nat), 0 < q → r < 10 ^ k → decP ((q * 10 ^ k + r : Nat) : Int) = decP (q : Int) ++ padP k r := by
  intro k
  induction k with
  | zero =>
    intro q r _ hr
    obtain rfl : r = 0 := by simpa using hr
    rw [padP_nil]; simp
  | succ k ih =>
    intro q r hq hr
    have hpos : 0 < q * 10 ^ (k + 1) + r := by have := Nat.mul_pos hq (show 0 < 10 ^ (k + 1) from Nat.pow_pos (by omega)); omega
    have e1 : (q * 10 ^ (k + 1) + r) / 10 = q * 10 ^ k + r / 10 := by rw [Nat.pow_succ, ← Nat.mul_assoc, Nat.mul_comm _ 10, Nat.mul_add_div (by omega)]
    have e2 : (q * 10 ^ (k + 1) + r) % 10 = r % 10 := by rw [Nat.pow_succ, ← Nat.mul_assoc, Nat.mul_comm _ 10, Nat.mul_add_mod]
    rw [decP_step (by omega), padP_step (by omega), ← List.append_assoc, show (k + 1 - 1 : Nat) = k by omega, ← ih q (r / 10) hq (by rw [Nat.div_lt_iff_lt_mul (by omega)]; rw [Nat.pow_succ] at hr; exact hr), ← e1]
    congr 1
    rw [← e2]
    rfl
theorem decI_group {v : Int} (hv : 0 ≤ v) (h : 0 < v / 10000000000000000000) : decI v = decI (v / 10000000000000000000) ++ padP 19 (v % 10000000000000000000).toNat := by
  obtain ⟨n, rfl⟩ := Int.eq_ofNat_of_zero_le hv
  have e1 : ((n : Int) / 10000000000000000000) = ((n / 10 ^ 19 : Nat) : Int) := by omega
  have e2 : ((n : Int) % 10000000000000000000).toNat = n % 10 ^ 19 := by omega
  have h2 : 0 < n / 10 ^ 19 := by omega
  rw [e1, e2, decI_pos (by omega), decI_pos (by omega), ← decP_group 19 _ _ h2 (Nat.mod_lt _ (by omega))]
  congr 2
  rw [Nat.mul_comm]
  exact (Nat.div_add_mod n (10 ^ 19)).symm
theorem decI_low {v : Int} (hv : 0 ≤ v) (h : ¬ 0 < v / 10000000000000000000) : decI v = padP 1 (v % 10000000000000000000).toNat := by
  rw [padP_one]
  congr 1
  omega
theorem Byt.drop {lo : Nat} {W : World} {b off len cap : Nat} {zs : List Int} (h : Byt lo W (.slice (some ⟨b, off, none⟩) len cap) zs) (k : Nat) (hk : k ≤ len) : Byt lo W (.slice (some ⟨b, off + k, none⟩) (len - k) (cap - k)) (zs.drop k) := by
  obtain ⟨hw, a', cap', e, h1, h3⟩ := h
  simp only [Value.slice.injEq] at e
  obtain ⟨rfl, rfl, rfl⟩ := e
  have hl : (zs.drop k).length = zs.length - k := List.length_drop
  refine ⟨fun z hz => hw z (List.mem_of_mem_drop hz), _, _, by rw [hl], by rw [hl]; omega, fun hz => ?_⟩
  have hp : 0 < zs.length - k := by rw [← hl]; exact List.length_pos_iff.2 hz
  obtain ⟨b', off', e1, e2, e3, e4, e5⟩ := h3 (List.length_pos_iff.1 (by omega))
  simp only [Option.some.injEq, Addr.mk.injEq] at e1
  obtain ⟨rfl, rfl, _⟩ := e1
  refine ⟨b, off + k, rfl, e2, e3, fun j hj => ?_, fun j hj => ?_⟩
  · rw [hl] at hj
    rw [Nat.add_assoc, e4 (k + j) (by omega), List.getElem?_drop]
  · rw [hl] at hj
    rw [Nat.add_assoc]
    exact e5 (k + j) (by omega)
def grp0 : List Int := [0, 0, 0, 0, 0, 0, 0, 0, 0, 0, 0, 0, 0, 0, 0, 0, 0, 0, 0]
theorem byt_group (w : World) : Byt w.heap.size (w.alloc (.cells #[.int .u8 0, .int .u8 0, .int .u8 0, .int .u8 0, .int .u8 0, .int .u8 0, .int .u8 0, .int .u8 0, .int .u8 0, .int .u8 0, .int .u8 0, .int .u8 0, .int .u8 0, .int .u8 0, .int .u8 0, .int .u8 0, .int .u8 0, .int .u8 0, .int .u8 0] 91)) (.slice (some ⟨w.heap.size, 0, none⟩) 19 19) grp0 := by
  refine ⟨by unfold grp0; intro z hz; simp at hz; omega, _, _, rfl, Nat.le_refl _, fun _ => ⟨w.heap.size, 0, rfl, Nat.le_refl _, by simp, fun j hj => ?_, fun j _ => frozen_of_heap (World.alloc_heap_new w _) _⟩⟩
  have hj' : j < 19 := hj
  rw [cell_of_heap (World.alloc_heap_new w _)]
  show ((grp0.map (Value.int .u8)).toArray)[0 + j]? = _
  rw [Nat.zero_add, List.getElem?_toArray, List.getElem?_map, List.getElem?_eq_getElem (show j < grp0.length from hj')]
  rfl
theorem run_group (W : World) (b k : Nat) (hk : k < 19) : (Instr.sliceAt 91 (.pointer (some ⟨b, 0, none⟩)) (some (.int .i64 k)) none none).run Tryd.prog W = .ok (.slice (some ⟨b, k, none⟩) (19 - k) (19 - k)) W := by
  have hA : Tryd.prog.arrayLen 91 = 19 := by kernel_rfl
  have hE : Tryd.prog.elem 91 = 5 := by kernel_rfl
  have hU : Tryd.prog.underlying 91 = some (.array (Tryd.prog.arrayLen 91) (Tryd.prog.elem 91)) := by rw [hA, hE]; exact Tryd.underlying91
  have hS : (sizeOf 5).run Tryd.prog W = .ok 1 W := Tryd.sizeOf5 W
  rw [run_sliceAt_array_l (P := Tryd.prog) W 91 ⟨b, 0, none⟩ hU .i64 k (by omega) (by rw [hA]; omega), hE, hS, hA]
  have hn : ¬ (19 : Nat) = k := by omega
  simp [go_sem, slicedAt, hn, Addr.add_lit]
set_option maxRecDepth 100000 in
set_option maxHeartbeats 4000000 in
theorem putGroup_any (x0 least : Nat) (hx : x0 < 10 ^ 19) (h1 : 1 ≤ least) (h2 : least ≤ 19) (w : World) :
    Calls Tryd.prog 30 #[.int .u64 x0, .int .i64 least] w fun e w' => e = .returned (.string (strOfNums (padP least x0))) ∧ Below w.heap.size w w' := by
  have hq : Below w.heap.size w (w.alloc (.cells #[.int .u8 0, .int .u8 0, .int .u8 0, .int .u8 0, .int .u8 0, .int .u8 0, .int .u8 0, .int .u8 0, .int .u8 0, .int .u8 0, .int .u8 0, .int .u8 0, .int .u8 0, .int .u8 0, .int .u8 0, .int .u8 0, .int .u8 0, .int .u8 0, .int .u8 0] 91)) := (Below.refl _ _).alloc (Nat.le_refl _) _
  have HG := byt_group w
  have hw0 : IntKind.i64.wrap (19 - (least : Int)) = 19 - (least : Int) := by rw [IntKind.wrap_i64]; omega
  have HP : Hid (padP least x0 = padP (least + 19 - 19) x0 ++ grp0.drop 19) := by
    rw [Hid, show least + 19 - 19 = least by omega]
    exact (List.append_nil _).symm
  go_enter Tryd.func30, Tryd.ntmps30
  go_wp2
  go_loopw [0, 6] (fun xv av wr => ∃ (x at' : Nat) (L : List Int), xv = .int .u64 x ∧ av = .int .i64 at' ∧ at' ≤ 19 ∧ x < 10 ^ at' ∧ Byt w.heap.size wr (.slice (some ⟨w.heap.size, 0, none⟩) 19 19) L ∧ Hid (padP least x0 = padP (least + at' - 19) x ++ L.drop at') ∧ Below w.heap.size w wr) (fun _ av _ => (intOf av).toNat)
  case atStart => exact ⟨x0, 19, grp0, rfl, rfl, by omega, hx, HG, HP, hq⟩
  case round =>
    clear HG HP hq
    obtain ⟨x, at', L, rfl, rfl, ha, hxa, hL, HP, hB⟩ := hrel
    by_cases h : x = 0 ∧ least + at' ≤ 19
    · obtain ⟨rfl, h3⟩ := h
      have hle : ¬ (at' : Int) > 19 - (least : Int) := by omega
      have hS := hL.drop at' ha
      rw [Nat.zero_add] at hS
      clear hxa hx
      have hR := run_str hS
      have hG := run_group wr w.heap.size at' (by omega)
      have HE : Hid (padP least x0 = L.drop at') := by
        rw [Hid, HP.out, show least + at' - 19 = 0 by omega, padP_nil, List.nil_append]
      clear HP
      go_wp2
      go_ret
      refine ⟨?_, hB⟩
      rw [HE.out]
      rfl
    · have hpos : 0 < at' := by
        rcases Nat.eq_zero_or_pos at' with h0 | h0
        · subst h0
          have : x = 0 := by simpa using hxa
          omega
        · exact h0
      obtain ⟨m, rfl⟩ : ∃ m, at' = m + 1 := ⟨at' - 1, by omega⟩
      have hw1 : IntKind.i64.wrap (((m + 1 : Nat) : Int) - 1) = (m : Int) := by rw [IntKind.wrap_i64]; omega
      have hm19 : (m : Int) < 19 := by omega
      have hm0 : (0 : Int) ≤ (m : Int) := by omega
      have hc := (hL.cell (j := m) (by omega))
      rw [Nat.zero_add] at hc
      obtain ⟨hc0, hf0⟩ := hc
      have hx64 : (x : Int) < 18446744073709551616 := by
        have : x < 10 ^ 19 := Nat.lt_of_lt_of_le hxa (Nat.pow_le_pow_right (by omega) ha)
        omega
      have hxd : x / 10 < 10 ^ m := by rw [Nat.div_lt_iff_lt_mul (by omega)]; rw [Nat.pow_succ] at hxa; exact hxa
      have hd : 0 ≤ (x : Int) % 10 + 48 ∧ (x : Int) % 10 + 48 < 256 := by omega
      have hw2 : IntKind.u64.wrap (48 + (x : Int) % 10) = (x : Int) % 10 + 48 := by rw [IntKind.wrap_u64]; omega
      have hw3 : IntKind.u8.wrap ((x : Int) % 10 + 48) = (x : Int) % 10 + 48 := by rw [IntKind.wrap_u8]; omega
      have HS := hide (hL.set (k := m) (by rw [← hL.len.1]; omega) hd)
      have HN : Hid (padP least x0 = padP (least + m - 19) (x / 10) ++ (L.set m ((x : Int) % 10 + 48)).drop m) := by
        rw [Hid, HP.out, padP_step (by omega), show least + (m + 1) - 19 - 1 = least + m - 19 by omega, List.append_assoc]
        congr 1
        have hlm : m < (L.set m ((x : Int) % 10 + 48)).length := by rw [List.length_set, ← hL.len.1]; omega
        rw [List.drop_eq_getElem_cons hlm, List.getElem_set_self, List.drop_set_of_lt (Nat.lt_succ_self m)]
        rfl
      obtain ⟨A, hA⟩ : ∃ A : Int, ((m + 1 : Nat) : Int) = A := ⟨_, rfl⟩
      have hcase : (0 : Int) < (x : Int) ∨ (¬ (0 : Int) < (x : Int) ∧ A > 19 - (least : Int)) := by omega
      have HA : Hid ((m : Int) < A) := by rw [Hid]; omega
      have HC : Hid (Value.int .u64 ((x : Int) / 10) = .int .u64 ((x / 10 : Nat) : Int)) := congrArg _ (by omega)
      rw [hA] at hw1 ⊢
      clear HP hx hxa
      have HX := hide hxd
      clear hxd h hpos ha hA
      rw [Nat.zero_add] at HS
      rcases hcase with hgt | ⟨hn0, hgt⟩
      · have hw4 : IntKind.u64.wrap ((x : Int) / 10) = (x : Int) / 10 := by rw [IntKind.wrap_u64]; omega
        clear hx64
        go_wp2
        exact ⟨⟨x / 10, m, _, HC.out, rfl, by omega, HX.out, HS.out, HN, hB.setCell (p := ⟨w.heap.size, m, none⟩) (Nat.le_refl _) _⟩, by simpa [intOf] using HA.out⟩
      · obtain rfl : x = 0 := by omega
        have HS0 : Hid (Byt w.heap.size (wr.setCell ⟨w.heap.size, m, none⟩ (.int .u8 48)) (.slice (some ⟨w.heap.size, 0, none⟩) 19 19) (L.set m 48)) := HS.out
        have HN0 : Hid (padP least x0 = padP (least + m - 19) 0 ++ (L.set m 48).drop m) := HN.out
        have HX0 : Hid (0 < 10 ^ m) := Nat.pow_pos (by omega)
        clear hx64 hn0 HS HN HX HC
        go_wp2
        exact ⟨⟨0, m, _, rfl, rfl, by omega, HX0.out, HS0.out, HN0, hB.setCell (p := ⟨w.heap.size, m, none⟩) (Nat.le_refl _) _⟩, by simpa [intOf] using HA.out⟩
theorem bitLen_le : ∀ (k v : Nat), Go.bitLen v ≤ k ↔ v < 2 ^ k := by
  intro k
  induction k with
  | zero =>
    intro v
    rw [Nat.pow_zero, Nat.le_zero]
    constructor
    · intro h
      by_cases e : v = 0
      · omega
      · rw [bitLen_half v e] at h; omega
    · intro h
      obtain rfl : v = 0 := by omega
      rfl
  | succ k ih =>
    intro v
    by_cases e : v = 0
    · subst e
      constructor
      · intro _; exact Nat.pow_pos (by omega)
      · intro _; exact Nat.zero_le _
    · rw [bitLen_half v e]
      have := ih (v / 2)
      rw [Nat.div_lt_iff_lt_mul (by omega), ← Nat.pow_succ] at this
      omega
theorem blen_pow (v : Int) (k : Nat) : blen v ≤ k ↔ v.toNat < 2 ^ k := bitLen_le k v.toNat
theorem b256_size (v : Int) : (b256 v).length = (blen v + 7) / 8 := by
  have key : ∀ k, (b256 v).length ≤ k ↔ (blen v + 7) / 8 ≤ k := by
    intro k
    rw [b256, List.length_map, digB_len (by omega), show (256 : Nat) = 2 ^ 8 by decide, ← Nat.pow_mul, ← blen_pow]
    omega
  have h1 := (key _).1 (Nat.le_refl _)
  have h2 := (key _).2 (Nat.le_refl _)
  omega
theorem digB_at {B : Nat} (hB : 2 ≤ B) : ∀ (p v : Nat), p < (digB B v).length → (digB B v)[(digB B v).length - 1 - p]?.getD 0 = v / B ^ p % B := by
  intro p
  induction p with
  | zero =>
    intro v hp
    have hv : 0 < v := by
      rcases Nat.eq_zero_or_pos v with e | e
      · subst e; rw [digB_zero] at hp; simp at hp
      · exact e
    rw [digB_pos hB hv, List.length_append, List.length_singleton, show (digB B (v / B)).length + 1 - 1 - 0 = (digB B (v / B)).length by omega, List.getElem?_append_right (Nat.le_refl _)]
    simp
  | succ p ih =>
    intro v hp
    have hv : 0 < v := by
      rcases Nat.eq_zero_or_pos v with e | e
      · subst e; rw [digB_zero] at hp; simp at hp
      · exact e
    have e := digB_pos hB hv
    have hl : (digB B v).length = (digB B (v / B)).length + 1 := by rw [e, List.length_append, List.length_singleton]
    have hp2 : p < (digB B (v / B)).length := by omega
    have := ih (v / B) hp2
    rw [hl, show (digB B (v / B)).length + 1 - 1 - (p + 1) = (digB B (v / B)).length - 1 - p by omega, e, List.getElem?_append_left (by omega), this, Nat.div_div_eq_div_mul, Nat.pow_succ, Nat.mul_comm B]
theorem byte_of {xs : List Int} (hw : Words xs) (p : Nat) : (val xs).toNat / 256 ^ p % 256 = ((xs[p / 8]?.getD 0).toNat / 256 ^ (p % 8)) % 256 := by
  induction p using Nat.strongRecOn generalizing xs with
  | ind p ih =>
    cases xs with
    | nil => simp [val_nil]
    | cons x xs =>
      have hx := hw.head
      have hv := val_nonneg hw.tail
      rcases Nat.lt_or_ge p 8 with h | h
      · have e1 : p / 8 = 0 := by omega
        have e2 : p % 8 = p := by omega
        rw [e1, e2, val_cons]
        have e3 : (x + 18446744073709551616 * val xs).toNat = x.toNat + 256 ^ p * (256 ^ (8 - p) * (val xs).toNat) := by
          rw [← Nat.mul_assoc, ← Nat.pow_add, show p + (8 - p) = 8 by omega]
          omega
        have e4 : 256 ^ (8 - p) * (val xs).toNat = 256 * (256 ^ (7 - p) * (val xs).toNat) := by
          rw [← Nat.mul_assoc, show 8 - p = (7 - p) + 1 by omega, Nat.pow_succ, Nat.mul_comm (256 ^ (7 - p)) 256]
        rw [e3, Nat.add_mul_div_left _ _ (Nat.pow_pos (by omega)), e4, Nat.add_mul_mod_self_left]
        rfl
      · have e1 : p / 8 = (p - 8) / 8 + 1 := by omega
        have e2 : p % 8 = (p - 8) % 8 := by omega
        have e3 : (val (x :: xs)).toNat / 256 ^ p = (val xs).toNat / 256 ^ (p - 8) := by
          rw [show p = 8 + (p - 8) by omega, Nat.pow_add, ← Nat.div_div_eq_div_mul, show 8 + (p - 8) - 8 = p - 8 by omega, val_cons]
          congr 1
          omega
        rw [e1, e2, e3, ih (p - 8) (by omega) hw.tail, List.getElem?_cons_succ]
theorem b256_at {v : Int} {p : Nat} (hp : p < (b256 v).length) : (b256 v)[(b256 v).length - 1 - p]?.getD 0 = ((v.toNat / 256 ^ p % 256 : Nat) : Int) := by
  unfold b256 at hp ⊢
  rw [List.length_map] at hp ⊢
  rw [List.getElem?_map, ← digB_at (by omega) p v.toNat hp, List.getElem?_eq_getElem (by omega)]
  rfl
theorem bytes_zeros_lit (n : Nat) (w : World) : Byt w.heap.size (w.alloc (.cells (madeCells (Value.int .u8 0).cells (n * 1)) 5)) (.slice (some ⟨w.heap.size, 0, none⟩) n n) (List.replicate n 0) := by
  have hh : (w.alloc (.cells (madeCells (Value.int .u8 0).cells (n * 1)) 5)).heap[w.heap.size]? = some (.cells (madeCells (Value.int .u8 0).cells (n * 1)) 5 (0, 0)) := World.alloc_heap_new w _
  have hl : (List.replicate n (0 : Int)).length = n := List.length_replicate
  refine ⟨fun z hz => by rw [(List.mem_replicate.1 hz).2]; decide, _, _, by rw [hl], by rw [hl]; exact Nat.le_refl _, fun _ => ⟨_, 0, rfl, Nat.le_refl _, by simp, fun j hj => ?_, fun j _ => frozen_of_heap hh _⟩⟩
  rw [hl] at hj
  rw [cell_of_heap hh, Nat.zero_add]
  simp [madeCells, Value.cells, Nat.mod_one, hj]
theorem makeb_any (n : Nat) (hn : n ≤ 100000) : ∃ Z : Obj, (∀ w : World, (Instr.makeSlice 27 (.int .i64 n) (.int .i64 n)).run Tryd.prog w = .ok (.slice (some ⟨w.heap.size, 0, none⟩) n n) (w.alloc Z)) ∧ (∀ w : World, Byt w.heap.size (w.alloc Z) (.slice (some ⟨w.heap.size, 0, none⟩) n n) (List.replicate n 0)) := by
  obtain ⟨i0, hi, hz0, hz1, hz2⟩ := info_parts infoU8
  refine ⟨.cells (madeCells (Value.int .u8 0).cells (n * 1)) 5, fun w => ?_, bytes_zeros_lit n⟩
  have := run_make (P := Tryd.prog) w 27 5 i0 (.int .u8 0) Tryd.underlying27 hi hz0 .i64 .i64 n n (by omega) (Int.le_refl _) (by rw [hz2]; omega) (by omega)
  rw [Int.toNat_natCast, hz1] at this
  exact this
set_option maxRecDepth 100000 in
set_option maxHeartbeats 4000000 in
theorem bytes_any {lo : Nat} {a : Option Addr} {cap : Nat} {xs : List Int} {w : World} (h : Seg lo w (.slice a xs.length cap) xs) (hl : xs.length ≤ 1000) :
    Calls Tryd.prog 12 #[.slice a xs.length cap] w fun e w' => ∃ (a' : Option Addr) (cap' : Nat), e = .returned (.slice a' (b256 (val xs)).length cap') ∧ Byt w.heap.size w' (.slice a' (b256 (val xs)).length cap') (b256 (val xs)) ∧ Below w.heap.size w w' := by
  obtain ⟨n, hN⟩ : ∃ n, xs.length = n := ⟨_, rfl⟩
  have hlen := len_any h (by omega)
  obtain ⟨ds, hds⟩ : ∃ ds, b256 (val xs) = ds := ⟨_, rfl⟩
  obtain ⟨L, hL⟩ : ∃ L, ds.length = L := ⟨_, rfl⟩
  have hLb := b256_size (val xs)
  have hL8 := b256_len (val_lt h.words)
  rw [hds, hL] at hLb hL8
  obtain ⟨B, hB0⟩ : ∃ B, blen (val xs) = B := ⟨_, rfl⟩
  rw [hB0] at hlen hLb
  rw [hN] at hL8 h hl hlen ⊢
  have HDS := hide hds
  have HDL := hide hL
  have HAT : Hid (∀ p, p < L → ds[L - 1 - p]?.getD 0 = (((xs[p / 8]?.getD 0).toNat / 256 ^ (p % 8) % 256 : Nat) : Int)) := by
    intro p hp
    have h1 := b256_at (v := val xs) (p := p) (by rw [hds, hL]; exact hp)
    rw [hds, hL, byte_of h.words] at h1
    exact h1
  have hw1 : IntKind.i64.wrap ((B : Int) + 8) = (B : Int) + 8 := by rw [IntKind.wrap_i64]; omega
  have hw2 : IntKind.i64.wrap ((B : Int) + 8 - 1) = (B : Int) + 7 := by rw [IntKind.wrap_i64]; omega
  have hw3 : ((B : Int) + 7) / 8 = (L : Int) := by omega
  have hw4 : IntKind.i64.wrap (L : Int) = (L : Int) := by rw [IntKind.wrap_i64]; omega
  rw [hds, hL]
  clear hds hL hLb hN hB0
  go_enter Tryd.func12, Tryd.ntmps12
  go_wp2_with fail
  refine hlen.mono ?_
  rintro e w1 ⟨rfl, hb1⟩
  obtain ⟨Z, hmk, hmz⟩ := makeb_any L (by omega)
  clear hlen
  go_wp2
  have hq1 : Below w1.heap.size w1 (w1.alloc Z) := (Below.refl _ _).alloc (Nat.le_refl _) _
  have HZ := hmz w1
  have HD0 : Hid ((List.replicate L (0 : Int)).drop (L - 0) = ds.drop (L - 0)) := by
    rw [Hid, Nat.sub_zero, List.drop_of_length_le (by simp), List.drop_of_length_le (by rw [HDL.out]; exact Nat.le_refl _)]
  clear hmk hmz
  go_loopw [13] (fun iv wr => ∃ (p : Nat) (zs : List Int), iv = .int .i64 p ∧ p ≤ L ∧ zs.length = L ∧ Byt w1.heap.size wr (.slice (some ⟨w1.heap.size, 0, none⟩) L L) zs ∧ Hid (zs.drop (L - p) = ds.drop (L - p)) ∧ Below w1.heap.size w1 wr) (fun iv _ => L - (intOf iv).toNat)
  case atStart => exact ⟨0, _, rfl, Nat.zero_le _, List.length_replicate, HZ, HD0, hq1⟩
  case round =>
    clear HD0 HZ hq1
    obtain ⟨p, zs, rfl, hp, hzl, hz, HD, hB⟩ := hrel
    have hBw := hb1.trans (hB.mono hb1.size)
    by_cases hlt : p < L
    · obtain ⟨q, hq⟩ : ∃ q, p / 8 = q := ⟨_, rfl⟩
      obtain ⟨r, hr⟩ : ∃ r, p % 8 = r := ⟨_, rfl⟩
      obtain ⟨J, hJ⟩ : ∃ J, L - 1 - p = J := ⟨_, rfl⟩
      have hqn : q < n := by omega
      obtain ⟨x, hx⟩ : ∃ x, xs[q]?.getD 0 = x := ⟨_, rfl⟩
      have hxb : 0 ≤ x ∧ x < 18446744073709551616 := by rw [← hx]; exact h.words.getD q
      have h' := h.below hBw
      obtain ⟨b, off, rfl, _, _⟩ := h'.row (by omega)
      obtain ⟨hc0, hf0⟩ := h'.cell (j := q) hqn
      rw [hx] at hc0
      obtain ⟨hcj, hfj⟩ := hz.cell (j := J) (by omega)
      rw [Nat.zero_add] at hcj hfj
      obtain ⟨y, hy⟩ : ∃ y, (((x.toNat / 256 ^ r % 256 : Nat)) : Int) = y := ⟨_, rfl⟩
      have hyb : 0 ≤ y ∧ y < 256 := by omega
      have hyv : IntKind.u8.wrap (x / 2 ^ (8 * r)) = y := by
        rw [IntKind.wrap_u8, Int.pow_mul, ← hy, show (2 : Int) ^ 8 = 256 by decide]
        obtain ⟨m, rfl⟩ := Int.eq_ofNat_of_zero_le hxb.1
        rw [Int.toNat_natCast]
        have e : (256 : Int) ^ r = ((256 ^ r : Nat) : Int) := by rw [Int.natCast_pow]; rfl
        rw [e]
        omega
      have HA := HAT.out p hlt
      rw [hJ, hq, hr, hx, hy] at HA
      have HN : Hid ((zs.set J y).drop (L - (p + 1)) = ds.drop (L - (p + 1))) := by
        have e1 : L - (p + 1) = J := by omega
        have e2 : J + 1 = L - p := by omega
        have l1 : J < (zs.set J y).length := by rw [List.length_set]; omega
        have l2 : J < ds.length := by rw [HDL.out]; omega
        have c1 : (zs.set J y).drop J = y :: zs.drop (J + 1) := by rw [List.drop_eq_getElem_cons l1, List.getElem_set_self, List.drop_set_of_lt (Nat.lt_succ_self J)]
        have c2 : ds.drop J = ds[J] :: ds.drop (J + 1) := List.drop_eq_getElem_cons l2
        have hd := HD.out
        rw [List.getElem?_eq_getElem l2] at HA
        simp only [Option.getD_some] at HA
        rw [Hid, e1, c1, c2, e2, hd, HA]
      have HS := hide (hz.set (k := J) (by omega) hyb)
      rw [Nat.zero_add] at HS
      have g1 : IntKind.i64.wrap ((L : Int) - 1) = (L : Int) - 1 := by rw [IntKind.wrap_i64]; omega
      have g2 : IntKind.i64.wrap ((L : Int) - 1 - (p : Int)) = (J : Int) := by rw [IntKind.wrap_i64]; omega
      have g3 : (p : Int) / 8 = (q : Int) := by omega
      have g4 : (p : Int) % 8 = (r : Int) := by omega
      have g5 : IntKind.i64.wrap ((r : Int) * 8) = 8 * (r : Int) := by rw [IntKind.wrap_i64]; omega
      have g6 : (0 : Int) ≤ 8 * (r : Int) := by omega
      have g7 : min (8 * (r : Int)).toNat 64 = 8 * r := by omega
      have g8 : IntKind.i64.wrap ((p : Int) + 1) = (p : Int) + 1 := by rw [IntKind.wrap_i64]; omega
      have g9 : (p : Int) < (L : Int) := by omega
      have g10 : (0 : Int) ≤ (p : Int) := by omega
      have g11 : (q : Int) < (n : Int) := by omega
      have g12 : (J : Int) < (L : Int) := by omega
      have g13 : IntKind.i64.wrap (q : Int) = (q : Int) := by rw [IntKind.wrap_i64]; omega
      clear HA hJ hq hr hx hy hyb hxb HD hw1 hw2 hw3 hw4
      go_wp2
      exact ⟨⟨p + 1, zs.set J y, by simp, by omega, by rw [List.length_set]; exact hzl, HS.out, HN, hB.setCell (p := ⟨w1.heap.size, J, none⟩) (Nat.le_refl _) _⟩, by simp [intOf]; omega⟩
    · obtain rfl : p = L := by omega
      have hnl : ¬ (p : Int) < (p : Int) := by omega
      have HE : Hid (zs = ds) := by
        have := HD.out
        rw [Nat.sub_self, List.drop_zero, List.drop_zero] at this
        exact this
      clear HD
      go_wp2
      go_ret
      refine ⟨_, _, rfl, ?_, hBw⟩
      rw [← HE.out]
      exact hz.mono hb1.size
end Go.Proofs.YtfcpaejeppedoaaDoor
