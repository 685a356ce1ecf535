/-
  The walk of the program's School: products by rows of digits.
-/
import Derived.Test.YtejocefblpkdjabGreatTRows
import Derived.Test.YtejocefblpkdjabGreatJWiden
import Derived.Deep.Draws
import Derived.Laws.IdiomRangeMap
import Derived.Laws.IdiomCopy
namespace Go.Proofs.YtejocefblpkdjabGreat
open Go.RowKit

theorem made_noughts (n : Nat) : (madeCells (Value.int .u64 0).cells (n * 1)).toList = (List.replicate n (0 : Int)).map (Value.int .u64) := by
  apply List.ext_getElem
  · simp [madeCells]
  · intro i h1 h2
    simp [madeCells, Value.cells, Nat.mod_one]
/-- A list that is just made. -/
theorem seg_made {L : Nat} {W : World} {n : Nat} (h : W.ownsRow L 71 1 (.slice (some ⟨L, 0, none⟩) n n) n (madeCells (Value.int .u64 0).cells (n * 1)).toList) : Seg L W (.slice (some ⟨L, 0, none⟩) n n) (List.replicate n 0) := by
  rw [made_noughts] at h
  have hO : Own L W (.slice (some ⟨L, 0, none⟩) n n) (List.replicate n 0) := by
    refine ⟨?_, Words.zeros n⟩
    rw [List.length_replicate]; exact h
  obtain ⟨a, cap, e, hs⟩ := own_seg hO
  rw [List.length_replicate] at e hs
  simp only [Value.slice.injEq] at e
  obtain ⟨rfl, _, rfl⟩ := e
  exact hs
/-- The list from its place k on. -/
theorem Seg.drop {lo : Nat} {W : World} {b off len cap : Nat} {zs : List Int} (h : Seg lo W (.slice (some ⟨b, off, none⟩) len cap) zs) (k : Nat) (hk : k ≤ len) : Seg lo W (.slice (some ⟨b, off + k, none⟩) (len - k) (cap - k)) (zs.drop k) := by
  obtain ⟨hw, a', cap', e, h1, h3⟩ := h
  simp only [Value.slice.injEq] at e
  obtain ⟨rfl, rfl, rfl⟩ := e
  have hl : (zs.drop k).length = zs.length - k := List.length_drop
  refine ⟨hw.drop k, _, _, by rw [hl], by rw [hl]; omega, fun hz => ?_⟩
  have hp : 0 < zs.length - k := by rw [← hl]; exact List.length_pos_iff.2 hz
  obtain ⟨b', off', e1, e2, e3, e4, e5⟩ := h3 (List.length_pos_iff.1 (by omega))
  simp only [Option.some.injEq, Addr.mk.injEq] at e1
  obtain ⟨rfl, rfl, _⟩ := e1
  refine ⟨b, off + k, rfl, e2, e3, fun j hj => ?_, fun j hj => ?_⟩
  · rw [hl] at hj
    rw [Nat.add_assoc, e4 (k + j) (by omega), List.getElem?_drop]
  · rw [hl] at hj
    rw [Nat.add_assoc]; exact e5 (k + j) (by omega)
/-- copy(list, src), where the list is not shorter. -/
theorem seg_copy {lo L : Nat} {W : World} {b off len cap cn : Nat} {an : Option Addr} {P xs : List Int} (hP : Seg L W (.slice (some ⟨b, off, none⟩) len cap) P) (hs : Seg lo W (.slice an xs.length cn) xs) (hl : xs.length ≤ len) (h0 : 0 < len) :
    ∃ w', (Builtin.copy_ #[27, 27] 3 #[.slice (some ⟨b, off, none⟩) len cap, .slice an xs.length cn]).run Tryz.prog W = .ok (goInt xs.length) w' ∧ Seg L w' (.slice (some ⟨b, off, none⟩) len cap) (xs ++ P.drop xs.length) ∧ Below L W w' := by
  obtain ⟨i0, hi, hz0, hz1, hz2⟩ := info_parts infoU64
  have hsz : (Tryz.prog.info? 71).map (·.size) = some 1 := by rw [hi]; simp [hz1]
  by_cases hx : xs = []
  · subst hx
    exact ⟨W, run_copy_none W 27 27 3 71 _ _ _ _ _ _ Tryz.underlying27 hsz (by simp), by simpa using hP, Below.refl _ _⟩
  · have hp : 0 < xs.length := List.length_pos_iff.2 hx
    obtain ⟨g, o, rfl, _, _⟩ := hs.row hp
    have hcl : ∀ j, j < len → W.cell? ⟨b, off + j, none⟩ = some (.int .u64 (P[j]?.getD 0)) ∧ W.frozen? ⟨b, off + j, none⟩ = false := fun j hj => hP.cell hj
    have hr := run_copy_cells (P := Tryz.prog) W 27 27 3 71 b off len cap ⟨g, o, none⟩ xs.length cn (xs.map (Value.int .u64)) Tryz.underlying27 hsz (by rw [List.length_map]; exact (Nat.min_eq_left hl).symm)
      (fun j v hj => by
        rw [List.getElem?_map] at hj
        obtain ⟨z, hz', rfl⟩ := Option.map_eq_some_iff.1 hj
        have hjl : j < xs.length := (List.getElem?_eq_some_iff.1 hz').1
        have := (hs.cell (j := j) hjl).1
        rw [hz'] at this
        rw [Addr.add_lit]
        exact this)
      (fun j hj => by rw [List.length_map] at hj; rw [(hcl j (by omega)).1]; rfl) (fun j hj => by rw [List.length_map] at hj; exact (hcl j (by omega)).2) (fun v hv => by obtain ⟨z, _, rfl⟩ := List.mem_map.1 hv; rfl)
    rw [List.length_map] at hr
    obtain ⟨hlen, hcap⟩ := hP.len
    obtain ⟨b', o', eb, hLb, hbs⟩ := hP.row h0
    simp only [Option.some.injEq, Addr.mk.injEq] at eb
    obtain ⟨rfl, rfl, _⟩ := eb
    have hll : (xs ++ P.drop xs.length).length = len := by rw [List.length_append, List.length_drop]; omega
    have hbel : Below L W (W.setCells b off (xs.map (Value.int .u64))) := by
      have : ∀ (vs : List Value) (o : Nat) (w : World), Below L W w → Below L W (w.setCells b o vs) := fun vs => by
        induction vs with
        | nil => intro o w h; exact h
        | cons v vs ih => intro o w h; exact ih (o + 1) _ (h.setCell (p := ⟨b, o, none⟩) hLb v)
      exact this _ _ _ (Below.refl _ _)
    refine ⟨_, hr, ⟨hs.words.append (hP.words.drop _), _, _, by rw [hll], by rw [hll]; exact hcap, fun _ => ⟨b, off, rfl, hLb, Nat.lt_of_lt_of_le hbs hbel.size, fun j hj => ?_, fun j hj => ?_⟩⟩, hbel⟩
    · rw [hll] at hj
      by_cases hjx : j < xs.length
      · have := World.cell?_setCells_in b (xs.map (Value.int .u64)) off W (fun i hi => by rw [List.length_map] at hi; rw [(hcl i (by omega)).1]; rfl) j (by rw [List.length_map]; exact hjx)
        rw [this, List.getElem?_append_left hjx, List.getElem_map, List.getElem?_eq_getElem hjx]; rfl
      · rw [World.cell?_setCells_out b _ off W ⟨b, off + j, none⟩ (fun _ _ => by rw [List.length_map]; right; show off + xs.length ≤ off + j; omega), (hcl j hj).1, List.getElem?_append_right (by omega), List.getElem?_drop]
        rw [show xs.length + (j - xs.length) = j by omega]
    · rw [hll] at hj
      rw [World.frozen?_setCells]; exact (hcl j hj).2
/-- One row of the school's product. -/
theorem school_step {P P' us bs : List Int} {k n m : Nat} {c : Int} (hk : k < us.length) (hn : us.length = n) (hP' : P'.length = n + m) (e : val P = val (us.take k) * val bs) (hz : P'[k + m]?.getD 0 = 0)
    (er : val P' + pw (k + m) * c = val P + pw k * (us[k]?.getD 0 * val bs)) : val (P'.set (k + m) c) = val (us.take (k + 1)) * val bs := by
  have h := val_set (ss := P') (k := k + m) (by omega) c
  rw [hz, Int.sub_zero] at h
  rw [h, er, e, val_take_succ us k hk, Int.add_mul, Int.mul_assoc]

set_option maxRecDepth 100000 in
set_option maxHeartbeats 4000000 in
/-- School(a, b): the product. -/
theorem school_any {lo lo' : Nat} {sa sb : Value} {xs ys : List Int} {w : World} (ha : Seg lo w sa xs) (hb : Seg lo' w sb ys) (hla : xs.length ≤ 5000) (hlb : ys.length ≤ 5000) :
    Calls Tryz.prog 86 #[sa, sb] w fun e w' => ∃ (a : Option Addr) (cap : Nat) (zs : List Int), e = .returned (.slice a zs.length cap) ∧ Seg w.heap.size w' (.slice a zs.length cap) zs ∧ Norm zs ∧ val zs = val xs * val ys ∧ zs.length ≤ xs.length + ys.length ∧ Below w.heap.size w w' := by
  obtain ⟨i0, hi, hz0, hz1, hz2⟩ := info_parts infoU64
  go_enter Tryz.func86, Tryz.ntmps86
  go_wp2_with fail
  refine (tbare_any ha (by omega)).mono ?_
  rintro e w1 ⟨a1, cap1, xs1, rfl, hs1, hn1, hv1, hl1, hb1⟩
  go_wp2_with fail
  refine (tbare_any (hb.below hb1) (by omega)).mono ?_
  rintro e w2 ⟨a2, cap2, ys2, rfl, hs2, hn2, hv2, hl2, hb2⟩
  replace hs1 := hs1.below hb2
  have hb12 : Below w.heap.size w w2 := hb1.trans (hb2.mono hb1.size)
  have HV : Hid (val xs1 = val xs ∧ val ys2 = val ys) := ⟨hv1, hv2⟩
  clear hv1 hv2 hb2 hb1 ha hb
  by_cases hx0 : xs1 = []
  · subst hx0
    go_wp2
    go_ret
    exact ⟨none, 0, [], rfl, Seg.nil _ _, norm_nil, by have := HV.out.1; rw [val_nil] at this; rw [← this]; simp [val_nil], Nat.zero_le _, hb12⟩
  by_cases hy0 : ys2 = []
  · subst hy0
    have b0x : ((xs1.length : Int) == 0) = false := beq_eq_false_iff_ne.2 (by have := List.length_pos_iff.2 hx0; omega)
    clear hx0
    go_wp2
    go_ret
    exact ⟨none, 0, [], rfl, Seg.nil _ _, norm_nil, by have := HV.out.2; rw [val_nil] at this; rw [← this]; simp [val_nil], Nat.zero_le _, hb12⟩
  have b0x : ((xs1.length : Int) == 0) = false := beq_eq_false_iff_ne.2 (by have := List.length_pos_iff.2 hx0; omega)
  have b0y : ((ys2.length : Int) == 0) = false := beq_eq_false_iff_ne.2 (by have := List.length_pos_iff.2 hy0; omega)
  replace hx0 := List.length_pos_iff.2 hx0
  replace hy0 := List.length_pos_iff.2 hy0
  by_cases hlt : ys2.length < xs1.length
  ·
    go_wp2_with (at_make; refine wpList_make_full _ rfl _ _ 27 rfl w2.heap.size 71 i0 (.int .u64 0) 1 Tryz.underlying27 hi hz0 hz1 .i64 .i64 _ _ (ys2.length + xs1.length) rfl rfl (by omega) (by omega) (by rw [hz2]; omega) (by unfold maxLen; omega) (Nat.le_refl _) ?_; intro w3 hown hgrow)
    have hs3 := seg_made hown
    have hb3 : Below w2.heap.size w2 w3 := (Below.refl _ _).grown hgrow (Nat.le_refl _) (fun k e => by cases e)
    obtain ⟨n, hn⟩ : ∃ n, ys2.length = n := ⟨_, rfl⟩
    obtain ⟨m, hm⟩ : ∃ m, xs1.length = m := ⟨_, rfl⟩
    have HN : Hid (ys2.length = n ∧ xs1.length = m) := ⟨hn, hm⟩
    have hwa := hs2.words
    have HZ : Hid (val (List.replicate (n + m) 0) = val (ys2.take 0) * val xs1) := by rw [Hid, val_zeros, List.take_zero, val_nil, Int.zero_mul]
    rw [hn, hm] at hs3 ⊢
    rw [hn] at hs2
    have hnl : n ≤ 5000 := by omega
    have hml : m ≤ 5000 := by omega
    have hn0 : 0 < n := by omega
    have hm0 : 0 < m := by omega
    have hnm : n ≤ ys.length ∧ m ≤ xs.length := by omega
    clear hown hgrow hi hz0 hz1 hz2 hn hm hlt hl1 hl2 hx0 hy0 b0x b0y
    go_wp2
    go_loopw [35] (fun j wr => ∃ (k : Nat) (P : List Int), k ≤ n ∧ j = .int .i64 k ∧ Seg w2.heap.size wr (.slice (some ⟨w2.heap.size, 0, none⟩) (n + m) (n + m)) P ∧ Hid (val P = val (ys2.take k) * val xs1) ∧ Hid (∀ j, k + m ≤ j → P[j]?.getD 0 = 0) ∧ Below w2.heap.size w2 wr) (fun j _ => n - (intOf j).toNat)
    case atStart =>
      exact ⟨0, _, Nat.zero_le _, rfl, hs3, HZ, fun j _ => by rw [List.getElem?_replicate]; split <;> rfl, hb3⟩
    case round =>
      obtain ⟨k, P, hk, rfl, hP, HE, HT, hbr⟩ := hrel
      have hsr := hs2.below hbr
      by_cases hkn : k < n
      · obtain ⟨g, o2, rfl, _, _⟩ := hsr.row (by omega)
        have hac := (hsr.cell (j := k) hkn).1
        have hak := hwa.getD k
        have hrow := fun (l : Nat) (hl : l = n + m - k) (c : Nat) => addRow_any (i := k) (l := l) (cl := c) (x := ys2[k]?.getD 0) hs1 hbr hP (by rw [HN.out.2]; omega) hl hak (by omega)
        rw [HN.out.2] at hrow
        have hrow := hrow (n + m - k) rfl
        rw [Nat.zero_add] at hrow
        have hki : (k : Int) < (n : Int) := by omega
        have HSTEP : Hid (∀ (P' : List Int) (c : Int), P'.length = n + m → P'[k + m]?.getD 0 = 0 → val P' + pw (k + m) * c = val P + pw k * (ys2[k]?.getD 0 * val xs1) → val (P'.set (k + m) c) = val (ys2.take (k + 1)) * val xs1) :=
          fun P' c h1 h2 h3 => school_step (by rw [HN.out.1]; exact hkn) HN.out.1 h1 HE.out h2 h3
        generalize ys2[k]?.getD 0 = x at *
        go_wp2_with fail
        refine (hrow _).mono ?_
        rintro e w4 ⟨c, P', rfl, hc, hP', hv, ht, hb4⟩
        have HL' : Hid (P'.length = n + m) := hP'.len.1.symm
        obtain ⟨hce, hfr⟩ := hP'.cell (j := k + m) (by omega)
        have HS := hide (hP'.set (k := k + m) (by rw [HL'.out]; omega) hc)
        rw [Nat.zero_add] at hce hfr HS
        have hz0 : P'[k + m]?.getD 0 = 0 := (ht (k + m) (Nat.le_refl _)).trans (HT.out (k + m) (Nat.le_refl _))
        have HNEW := hide (HSTEP.out P' c HL'.out hz0 hv)
        have HT' : Hid (∀ j, k + 1 + m ≤ j → (P'.set (k + m) c)[j]?.getD 0 = 0) := fun j hj => by
          rw [List.getElem?_set_ne (by omega)]; exact (ht j (by omega)).trans (HT.out j (by omega))
        have hkw : IntKind.i64.wrap ((k : Int) + (m : Int)) = (k : Int) + (m : Int) := by rw [IntKind.wrap_i64]; omega
        have hkl : (k : Int) + (m : Int) < (n : Int) + (m : Int) := by omega
        have hk0 : (0 : Int) ≤ (k : Int) + (m : Int) := by omega
        have hkt : ((k : Int) + (m : Int)).toNat = k + m := by omega
        clear hv ht hz0 hrow
        generalize P'[k + m]?.getD 0 = old at *
        go_wp2
        refine ⟨⟨k + 1, _, by omega, by go_num, HS.out, HNEW, HT', ?_⟩, by simp [intOf]; omega⟩
        exact hb4.setCell (p := ⟨w2.heap.size, k + m, none⟩) (Nat.le_refl _) _
      · obtain rfl : k = n := by omega
        clear hwa
        go_wp2_with fail
        refine (tbare_any hP (by have := hP.len.1; omega)).mono ?_
        rintro e w4 ⟨a4, cap4, zs, rfl, hs4, hn4, hv4, hl4, hb4⟩
        have hfin : val zs = val xs * val ys := by
          have h1 := HE.out
          rw [List.take_of_length_le (by have := HN.out.1; omega)] at h1
          have h2 := HV.out
          rw [hv4, h1, h2.1, h2.2]; exact Int.mul_comm _ _
        have HF := hide hfin
        have HL4 : Hid (zs.length ≤ k + m) := by have := hP.len.1; rw [Hid]; omega
        clear hfin hv4 hl4
        go_wp2
        go_ret
        exact ⟨_, _, zs, rfl, hs4.mono hb12.size, hn4, HF.out, by have := HL4.out; omega, hb12.trans ((hbr.trans (hb4.mono hbr.size)).mono hb12.size)⟩
  ·
    go_wp2_with (at_make; refine wpList_make_full _ rfl _ _ 27 rfl w2.heap.size 71 i0 (.int .u64 0) 1 Tryz.underlying27 hi hz0 hz1 .i64 .i64 _ _ (xs1.length + ys2.length) rfl rfl (by omega) (by omega) (by rw [hz2]; omega) (by unfold maxLen; omega) (Nat.le_refl _) ?_; intro w3 hown hgrow)
    have hs3 := seg_made hown
    have hb3 : Below w2.heap.size w2 w3 := (Below.refl _ _).grown hgrow (Nat.le_refl _) (fun k e => by cases e)
    obtain ⟨n, hn⟩ : ∃ n, xs1.length = n := ⟨_, rfl⟩
    obtain ⟨m, hm⟩ : ∃ m, ys2.length = m := ⟨_, rfl⟩
    have HN : Hid (xs1.length = n ∧ ys2.length = m) := ⟨hn, hm⟩
    have hwa := hs1.words
    have HZ : Hid (val (List.replicate (n + m) 0) = val (xs1.take 0) * val ys2) := by rw [Hid, val_zeros, List.take_zero, val_nil, Int.zero_mul]
    rw [hn, hm] at hs3 ⊢
    rw [hn] at hs1
    have hnl : n ≤ 5000 := by omega
    have hml : m ≤ 5000 := by omega
    have hn0 : 0 < n := by omega
    have hm0 : 0 < m := by omega
    have hnm : n ≤ xs.length ∧ m ≤ ys.length := by omega
    clear hown hgrow hi hz0 hz1 hz2 hn hm hlt hl1 hl2 hx0 hy0 b0x b0y
    go_wp2
    go_loopw [35] (fun j wr => ∃ (k : Nat) (P : List Int), k ≤ n ∧ j = .int .i64 k ∧ Seg w2.heap.size wr (.slice (some ⟨w2.heap.size, 0, none⟩) (n + m) (n + m)) P ∧ Hid (val P = val (xs1.take k) * val ys2) ∧ Hid (∀ j, k + m ≤ j → P[j]?.getD 0 = 0) ∧ Below w2.heap.size w2 wr) (fun j _ => n - (intOf j).toNat)
    case atStart =>
      exact ⟨0, _, Nat.zero_le _, rfl, hs3, HZ, fun j _ => by rw [List.getElem?_replicate]; split <;> rfl, hb3⟩
    case round =>
      obtain ⟨k, P, hk, rfl, hP, HE, HT, hbr⟩ := hrel
      have hsr := hs1.below hbr
      by_cases hkn : k < n
      · obtain ⟨g, o2, rfl, _, _⟩ := hsr.row (by omega)
        have hac := (hsr.cell (j := k) hkn).1
        have hak := hwa.getD k
        have hrow := fun (l : Nat) (hl : l = n + m - k) (c : Nat) => addRow_any (i := k) (l := l) (cl := c) (x := xs1[k]?.getD 0) hs2 hbr hP (by rw [HN.out.2]; omega) hl hak (by omega)
        rw [HN.out.2] at hrow
        have hrow := hrow (n + m - k) rfl
        rw [Nat.zero_add] at hrow
        have hki : (k : Int) < (n : Int) := by omega
        have HSTEP : Hid (∀ (P' : List Int) (c : Int), P'.length = n + m → P'[k + m]?.getD 0 = 0 → val P' + pw (k + m) * c = val P + pw k * (xs1[k]?.getD 0 * val ys2) → val (P'.set (k + m) c) = val (xs1.take (k + 1)) * val ys2) :=
          fun P' c h1 h2 h3 => school_step (by rw [HN.out.1]; exact hkn) HN.out.1 h1 HE.out h2 h3
        generalize xs1[k]?.getD 0 = x at *
        go_wp2_with fail
        refine (hrow _).mono ?_
        rintro e w4 ⟨c, P', rfl, hc, hP', hv, ht, hb4⟩
        have HL' : Hid (P'.length = n + m) := hP'.len.1.symm
        obtain ⟨hce, hfr⟩ := hP'.cell (j := k + m) (by omega)
        have HS := hide (hP'.set (k := k + m) (by rw [HL'.out]; omega) hc)
        rw [Nat.zero_add] at hce hfr HS
        have hz0 : P'[k + m]?.getD 0 = 0 := (ht (k + m) (Nat.le_refl _)).trans (HT.out (k + m) (Nat.le_refl _))
        have HNEW := hide (HSTEP.out P' c HL'.out hz0 hv)
        have HT' : Hid (∀ j, k + 1 + m ≤ j → (P'.set (k + m) c)[j]?.getD 0 = 0) := fun j hj => by
          rw [List.getElem?_set_ne (by omega)]; exact (ht j (by omega)).trans (HT.out j (by omega))
        have hkw : IntKind.i64.wrap ((k : Int) + (m : Int)) = (k : Int) + (m : Int) := by rw [IntKind.wrap_i64]; omega
        have hkl : (k : Int) + (m : Int) < (n : Int) + (m : Int) := by omega
        have hk0 : (0 : Int) ≤ (k : Int) + (m : Int) := by omega
        have hkt : ((k : Int) + (m : Int)).toNat = k + m := by omega
        clear hv ht hz0 hrow
        generalize P'[k + m]?.getD 0 = old at *
        go_wp2
        refine ⟨⟨k + 1, _, by omega, by go_num, HS.out, HNEW, HT', ?_⟩, by simp [intOf]; omega⟩
        exact hb4.setCell (p := ⟨w2.heap.size, k + m, none⟩) (Nat.le_refl _) _
      · obtain rfl : k = n := by omega
        clear hwa
        go_wp2_with fail
        refine (tbare_any hP (by have := hP.len.1; omega)).mono ?_
        rintro e w4 ⟨a4, cap4, zs, rfl, hs4, hn4, hv4, hl4, hb4⟩
        have hfin : val zs = val xs * val ys := by
          have h1 := HE.out
          rw [List.take_of_length_le (by have := HN.out.1; omega)] at h1
          have h2 := HV.out
          rw [hv4, h1, h2.1, h2.2]
        have HF := hide hfin
        have HL4 : Hid (zs.length ≤ k + m) := by have := hP.len.1; rw [Hid]; omega
        clear hfin hv4 hl4
        go_wp2
        go_ret
        exact ⟨_, _, zs, rfl, hs4.mono hb12.size, hn4, HF.out, by have := HL4.out; omega, hb12.trans ((hbr.trans (hb4.mono hbr.size)).mono hb12.size)⟩
end Go.Proofs.YtejocefblpkdjabGreat
